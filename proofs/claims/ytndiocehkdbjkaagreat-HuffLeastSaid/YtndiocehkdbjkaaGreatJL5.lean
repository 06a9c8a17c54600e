/- Texts of this proof, one behind the other (HCount, KWords, KCodes, KSign, KP6, KByt, KEach, KBeg, KApart, KBegun); each fact names its conditions. -/
import Derived.Test.YtndiocehkdbjkaaGreatJL4
import Derived.Test.YtndiocehkdbjkaaGreatJL3
import Derived.Test.YtndiocehkdbjkaaGreatJL2
import Derived.Deep.RegionHeld3
import Derived.Deep.QuietTactic
import Derived.BigQuiet
import Derived.Lib.BytesEntry
import Derived.Shelf.Bytes.SlSmallAll
import Derived.WalkLawsBesides
import Derived.Deep.AppendLies
import Derived.Lib.SliceRun
namespace Go.Proofs.YtndiocehkdbjkaaGreat

section
set_option maxRecDepth 100000
set_option linter.unusedVariables false
open Go.RowKit Go.Shelf

/-- What is asked of one sign: is it from 0 to below m? -/
def rb (m x : Int) : Int := if x < 0 ∨ m ≤ x then 3 else 0
theorem rb_eq (m x : Int) : rgE 0 [decide (0 ≤ x), decide (x < m)] = rb m x := by
  unfold rgE rb
  by_cases h1 : x < 0
  · have : decide (0 ≤ x) = false := by simp; omega
    rw [this, if_pos (by simp), if_pos (.inl h1)]
  · have e1 : decide (0 ≤ x) = true := by simp; omega
    by_cases h2 : m ≤ x
    · have : decide (x < m) = false := by simp; omega
      rw [e1, this, if_pos (by simp), if_pos (.inr h2)]
    · have : decide (x < m) = true := by simp; omega
      rw [e1, this, if_neg (by simp), if_neg (by omega)]
theorem rb_zero (m x : Int) : rb m x = 0 ↔ 0 ≤ x ∧ x < m := by unfold rb; split <;> omega
theorem rb_or (m x : Int) : rb m x = 0 ∨ rb m x = 3 := by unfold rb; split <;> simp
set_option maxHeartbeats 400000 in
theorem countOne (m x : Int) (b : Nat) (w : World) (hp : w.cell? ⟨b, 0, none⟩ = some (.int .i64 m)) : Calls Tryz.prog 131 #[.int .i64 x, .pointer (some ⟨b, 0, none⟩)] w fun e w' => e = .returned (.int .i64 (rb m x)) ∧ Below w.heap.size w w' := by
  have HR := Lib.hid (range2 0 (decide (0 ≤ x)) (decide (x < m)) _ (rb_eq m x))
  generalize rb m x = r at *
  go_enter Tryz.func131, Tryz.ntmps131
  go_wp2_with fail
  refine (HR.out _ _ rfl).mono ?_
  rintro e w1 ⟨rfl, B1⟩
  go_wp2
  go_ret
  exact ⟨rfl, B1⟩
theorem entersCount1 : ∀ args w, (callFunc 131 args).run Tryz.prog w = .ok (.enter 131 args) w := enters_of Tryz.func131 (by kernel_rfl) rfl
set_option maxHeartbeats 400000 in
theorem deepOne (x : Int) (w : World) : Calls Tryz.prog 47 #[.int .i64 x] w fun e w' => e = .returned (.int .i64 (if 24 < x then 8 else 0)) ∧ Below w.heap.size w w' := by
  by_cases h : 24 < x
  · rw [if_pos h]
    have t0 : decide ((24 : Int) < x) = true := by simpa using h
    go_enter Tryz.func47, Tryz.ntmps47
    go_wp2
    go_ret
    exact ⟨rfl, Below.refl _ _⟩
  · rw [if_neg h]
    have t0 : decide ((24 : Int) < x) = false := by simpa using h
    go_enter Tryz.func47, Tryz.ntmps47
    go_wp2
    go_ret
    exact ⟨rfl, Below.refl _ _⟩
theorem entersDeep1 : ∀ args w, (callFunc 47 args).run Tryz.prog w = .ok (.enter 47 args) w := enters_of Tryz.func47 (by kernel_rfl) rfl

theorem box_here (w w' : World) (m : Int) (h : Below (w.heap.size + 1) (w.alloc (.cells #[.int .i64 m] 3)) w') : w'.cell? ⟨w.heap.size, 0, none⟩ = some (.int .i64 m) := by
  have e0 : w'.heap[w.heap.size]? = some (.cells #[.int .i64 m] 3 (0, 0)) := (h.block w.heap.size (by omega)).trans (World.alloc_heap_new w _)
  rw [cell_at e0]; rfl
/-- What is asked of the signs, behind the box. -/
theorem signs_each (xs : List Int) (n : Nat) (hn : xs.length = n) (hn2 : n ≤ 9223372036854775807) (m : Int) (A : Option Addr) (c : Nat) (w : World) (h : RdV w w.heap.size A (zc xs)) (V : World) (hV : Below (w.heap.size + 1) (w.alloc (.cells #[.int .i64 m] 3)) V) :
    Calls Tryz.prog 46 #[.slice A n c, .func (.func 131) #[] #[.pointer (some ⟨w.heap.size, 0, none⟩)]] V fun e w' => e = .returned (.int .i64 (eachE (rb m) xs)) ∧ Below V.heap.size V w' :=
  each_int 131 #[.pointer (some ⟨w.heap.size, 0, none⟩)] (rb m) xs n hn hn2 A c V (h.on ((one_below w _).trans (hV.mono (by omega)))) entersCount1
    (fun x V' hV' => countOne m x w.heap.size V' (box_here w V' m (hV.trans (hV'.mono (by have := hV.size; simpa using this)))))
/-- An error comes back. -/
abbrev CntE (w : World) (k : Int) (e : Ending) (w' : World) : Prop := e = .returned (.tuple #[.slice none 0 0, .int .i64 k]) ∧ Below w.heap.size w w'

set_option maxHeartbeats 1000000 in
theorem count_m (n c : Nat) (m : Int) (hm : rg 64 m ≠ 0) (A : Option Addr) (w : World) :
    Calls Tryz.prog 91 #[.slice A n c, .int .i64 m] w (CntE w 3) := by
  have HR := Lib.hid (range2 0 (decide (0 ≤ m)) (decide (m ≤ 64)) 3 (by rw [rg_eq 64 m]; rcases rg_or 64 m with h | h <;> omega))
  have HV : Hid (Below w.heap.size w (w.alloc (.cells #[.int .i64 m] 3)) ∧ (w.alloc (.cells #[.int .i64 m] 3)).heap.size = w.heap.size + 1 ∧ ∀ w', Below (w.heap.size + 1) (w.alloc (.cells #[.int .i64 m] 3)) w' → w'.cell? ⟨w.heap.size, 0, none⟩ = some (.int .i64 m)) := ⟨one_below _ _, by simp, fun w' h => box_here w w' m h⟩
  clear hm
  go_enter Tryz.func91, Tryz.ntmps91
  go_wp2_with fail
  generalize w.alloc (.cells #[.int .i64 m] 3) = V0 at *
  refine (HR.out V0 _ HV.out.2.1).mono ?_
  rintro e w1 ⟨rfl, b1⟩
  have HB := Lib.hid b1; clear b1
  go_wp2
  go_ret2
  exact ⟨rfl, HV.out.1.trans (HB.out.mono HV.out.1.size)⟩

def cntL (k : Nat) (t : List Nat) : List Nat := (List.range k).map (fun s => t.count s)
theorem cntL_length (k : Nat) (t : List Nat) : (cntL k t).length = k := by simp [cntL]
theorem cntL_at (k : Nat) (t : List Nat) (x : Nat) (h : x < k) : (cntL k t)[x]?.getD 0 = t.count x := by
  unfold cntL; rw [List.getElem?_map, List.getElem?_range h]; rfl
theorem cntL_snoc (k : Nat) (t : List Nat) (x : Nat) (h : x < k) : cntL k (t ++ [x]) = (cntL k t).set x (t.count x + 1) := by
  apply List.ext_getElem?
  intro i
  rw [List.getElem?_set]
  by_cases hi : i < k
  · have e1 : ∀ t, (cntL k t)[i]? = some (t.count i) := fun t => by unfold cntL; rw [List.getElem?_map, List.getElem?_range hi]; rfl
    rw [e1, e1, cntL_length]
    by_cases hx : x = i
    · subst hx; simp [h, List.count_append]
    · simp [hx, List.count_append]
  · rw [List.getElem?_eq_none (by rw [cntL_length]; omega), List.getElem?_eq_none (by rw [cntL_length]; omega), if_neg (by omega)]
theorem cntL_nil (k : Nat) : cntL k [] = List.replicate k 0 := by
  apply List.ext_getElem <;> simp [cntL]
theorem made_zc (k : Nat) : (madeCells (Value.int .i64 0).cells (k * 1)).toList = zc (ns (cntL k [])) := by
  rw [show (Value.int .i64 0).cells = #[Value.int .i64 0] from rfl, toList_madeCells_one, Nat.mul_one, cntL_nil]
  simp [zc, ns]
theorem zc_nset (l : List Nat) (i u : Nat) : zc (ns (l.set i u)) = (zc (ns l)).set i (.int .i64 (u : Int)) := by simp [zc, ns, List.map_set]
def CntRel (k : Nat) (ss : List Nat) (w : World) (g : Nat) (p : Value) (wr : World) : Prop :=
  ∃ i : Nat, i ≤ ss.length ∧ p = .int .i64 (i : Int) ∧ wr.ownsRow w.heap.size 3 1 (.slice (some ⟨g, 0, none⟩) k k) k (zc (ns (cntL k (ss.take i)))) ∧ Below w.heap.size w wr
set_option maxHeartbeats 2000000 in
theorem count_ok (ss : List Nat) (n : Nat) (hn : ss.length = n) (h1000 : n ≤ 1000) (k : Nat) (h64 : k ≤ 64) (hss : ∀ x ∈ ss, x < k) (A : Option Addr) (c : Nat) (w : World) (h : RdV w w.heap.size A (zc (ns ss))) :
    Calls Tryz.prog 91 #[.slice A n c, .int .i64 (k : Int)] w fun e w' => ∃ g, e = .returned (.tuple #[.slice (some ⟨g, 0, none⟩) k k, .int .i64 0]) ∧ w'.ownsRow w.heap.size 3 1 (.slice (some ⟨g, 0, none⟩) k k) k (zc (ns (cntL k ss))) ∧ Below w.heap.size w w' := by
  obtain ⟨i0, hi, hz0, hz1, hz2⟩ := info_parts info3i
  have HR := Lib.hid (range2 0 (decide (0 ≤ (k : Int))) (decide ((k : Int) ≤ 64)) 0 (by rw [rg_eq 64 (k : Int), rg_zero]; omega))
  have HV : Hid (Below w.heap.size w (w.alloc (.cells #[.int .i64 (k : Int)] 3)) ∧ (w.alloc (.cells #[.int .i64 (k : Int)] 3)).heap.size = w.heap.size + 1 ∧ ∀ w', Below (w.heap.size + 1) (w.alloc (.cells #[.int .i64 (k : Int)] 3)) w' → w'.cell? ⟨w.heap.size, 0, none⟩ = some (.int .i64 (k : Int))) := ⟨one_below _ _, by simp, fun w' h => box_here w w' _ h⟩
  have HE : Hid (∀ V, Below (w.heap.size + 1) (w.alloc (.cells #[.int .i64 (k : Int)] 3)) V → Calls Tryz.prog 46 #[.slice A n c, .func (.func 131) #[] #[.pointer (some ⟨w.heap.size, 0, none⟩)]] V fun e w' => e = .returned (.int .i64 0) ∧ Below V.heap.size V w') := by
    intro V hV
    have := signs_each (ns ss) n (by rw [ns_length]; exact hn) (by omega) (k : Int) A c w h V hV
    rwa [show eachE (rb (k : Int)) (ns ss) = 0 by
      rw [eachE_zero]
      intro x hx
      obtain ⟨y, hy, rfl⟩ := List.mem_map.1 hx
      rw [rb_zero]
      have := hss y hy
      omega] at this
  have HRd := Lib.hid h; clear h
  have HN := Lib.hid hn; clear hn
  have HSs := Lib.hid hss; clear hss
  go_enter Tryz.func91, Tryz.ntmps91
  go_wp2_with fail
  generalize w.alloc (.cells #[.int .i64 (k : Int)] 3) = V0 at *
  refine (HR.out V0 _ HV.out.2.1).mono ?_
  rintro e w1 ⟨rfl, b1⟩
  have HB1 : Hid (Below (w.heap.size + 1) V0 w1) := by rw [HV.out.2.1] at b1; exact b1
  clear b1
  have k1 := HV.out.2.2 w1 HB1.out
  go_wp2_with fail
  refine (HE.out w1 HB1.out).mono ?_
  rintro e w2 ⟨rfl, b2⟩
  have HB2 : Hid (Below (w.heap.size + 1) V0 w2) := HB1.out.trans (b2.mono (by have := HB1.out.size; have := HV.out.2.1; omega))
  clear b2 k1
  have k2 := HV.out.2.2 w2 HB2.out
  have HLow : Hid (Below w.heap.size w w2) := HV.out.1.trans (HB2.out.mono (by omega))
  have t0 : decide ((1000 : Int) < (n : Int)) = false := by simp; omega
  have t0' : decide (1000 < n) = false := by simp; omega
  go_wp2_with (at_make; refine wpList_make_full _ rfl _ _ 22 rfl w.heap.size 3 i0 (.int .i64 0) 1 Tryz.underlying22 hi hz0 hz1 _ _ _ _ k rfl rfl rfl rfl (by rw [hz2]; omega) (by unfold maxLen; omega) HLow.out.size ?_; intro w3 hown1 hgrow1; rw [made_zc] at hown1; have HO := Lib.hid hown1; have HG : Hid (Below w.heap.size w w3) := HLow.out.grown hgrow1 HLow.out.size (fun k hk => by cases hk); clear hown1 hgrow1)
  have HGs : Hid (w.heap.size ≤ w2.heap.size) := HLow.out.size
  clear k2 t0 t0' HE HR HV HB1 HB2 HLow
  generalize w2.heap.size = g at *
  go_loopw [33] (fun p wr => CntRel k ss w g p wr) (fun p _ => n - (intOf p).toNat)
  case atStart => exact ⟨0, Nat.zero_le _, rfl, HO.out, HG.out⟩
  case round =>
    obtain ⟨i, hi', rfl, hrow, hbel⟩ := hrel
    rw [HN.out] at hi'
    by_cases hlt : i < n
    · have hil : i < ss.length := by rw [HN.out]; exact hlt
      obtain ⟨b, off, rfl, hb, hcell⟩ := (HRd.out.below hbel hbel.size).at_ (ns_get ss i hil)
      have hx := HSs.out _ (at_mem ss i hil)
      have htk := take_snoc ss i hil
      have HB := Lib.hid hbel; clear hbel
      have hle : (ss.take i).count (ss[i]?.getD 0) ≤ 1000 := Nat.le_trans List.count_le_length (by rw [List.length_take]; omega)
      generalize ss[i]?.getD 0 = x at *
      have hz := cntL_at k (ss.take i) x hx
      have hsn := cntL_snoc k (ss.take i) x hx
      rw [← htk] at hsn
      have hlx : x < (cntL k (ss.take i)).length := by rw [cntL_length]; exact hx
      have hget := ns_get (cntL k (ss.take i)) x hlx
      rw [hz] at hget
      obtain ⟨kc, kf⟩ := own_cell hrow hget
      have hset := own_set (i := x) hrow (.int .i64 (((ss.take i).count x + 1 : Nat) : Int))
      rw [← zc_nset, ← hsn] at hset
      have HO3 := Lib.hid hset
      have HB3 := Lib.hid (HB.out.setCell (p := ⟨g, x, none⟩) HGs.out (.int .i64 (((ss.take i).count x + 1 : Nat) : Int)))
      clear hset hsn hz hget hlx htk hrow
      generalize (ss.take i).count x = y at *
      go_wp2
      go_roundw
      case rel => exact ⟨i + 1, by rw [HN.out]; omega, by go_num, HO3.out, HB3.out⟩
      case measure => simp [intOf]; omega
    · have e : ss.take i = ss := List.take_of_length_le (by rw [HN.out]; omega)
      rw [e] at hrow
      have HO3 := Lib.hid hrow; have HB3 := Lib.hid hbel
      clear hrow hbel e
      go_wp2
      go_ret2
      exact ⟨g, rfl, HO3.out, HB3.out⟩
end

section
set_option maxRecDepth 100000
set_option linter.unusedVariables false
open Go.RowKit Go.Shelf Go.Sort

/-- The first k words with their numbers, the others without. -/
def wmix (k : Nat) (W : List Wn) : List Wn := W.take k ++ (W.drop k).map (fun x => (x.1, x.2.1, 0))
theorem wmix_len (k : Nat) (W : List Wn) : (wmix k W).length = W.length := by simp [wmix]; omega
theorem wmix_one (W : List Wn) (h : ∀ x, W[0]? = some x → x.2.2 = 0) : wmix 1 W = W.map (fun x => (x.1, x.2.1, 0)) := by
  cases W with
  | nil => rfl
  | cons x t =>
    have := h x rfl
    obtain ⟨a, b, c⟩ := x
    simp at this
    subst this
    simp [wmix]
theorem wmix_all (k : Nat) (W : List Wn) (h : W.length ≤ k) : wmix k W = W := by
  unfold wmix
  rw [List.take_of_length_le h, List.drop_eq_nil_of_le h]; simp
def wAt (W : List Wn) (i : Nat) : Wn := W[i]?.getD (0, 0, 0)
theorem wmix_lo (k : Nat) (W : List Wn) (i : Nat) (h : i < k) (hW : i < W.length) : (wmix k W)[i]? = some (wAt W i) := by
  unfold wmix wAt
  rw [List.getElem?_append_left (by simp; omega), List.getElem?_take_of_lt h, List.getElem?_eq_getElem hW]; rfl
theorem wmix_hi (k : Nat) (W : List Wn) (i : Nat) (h : k ≤ i) (hW : i < W.length) : (wmix k W)[i]? = some ((wAt W i).1, (wAt W i).2.1, 0) := by
  unfold wmix wAt
  rw [List.getElem?_append_right (by simp; omega), List.getElem?_map, List.getElem?_drop]
  have : k + (i - (W.take k).length) = i := by simp; omega
  rw [this, List.getElem?_eq_getElem hW]; rfl
theorem wmix_succ (k : Nat) (W : List Wn) (h : k < W.length) : wmix (k + 1) W = (wmix k W).set k (wAt W k) := by
  apply List.ext_getElem?
  intro i
  rw [List.getElem?_set]
  by_cases hi : i < W.length
  · by_cases hk : k = i
    · subst hk
      rw [if_pos rfl, if_pos (by rw [wmix_len]; exact h), wmix_lo _ _ _ (by omega) hi]
    · rw [if_neg hk]
      rcases Nat.lt_or_ge i k with h' | h'
      · rw [wmix_lo _ _ _ (by omega) hi, wmix_lo _ _ _ h' hi]
      · rw [wmix_hi _ _ _ (by omega) hi, wmix_hi _ _ _ h' hi]
  · rw [List.getElem?_eq_none (by rw [wmix_len]; omega), if_neg (by omega), List.getElem?_eq_none (by rw [wmix_len]; omega)]
/-- Each number is told by the word ahead. -/
theorem wn_nums : ∀ (t : List Wd) (a : Nat), t.Pairwise (fun p q => p.2 ≤ q.2) → (∀ p ∈ t, p.2 ≤ 24 ∧ 2 ^ (24 - p.2) ∣ a) → ∀ i, i + 1 < t.length →
    (wAt (wn a t) (i + 1)).2.2 = ((wAt (wn a t) i).2.2 + 1) * 2 ^ ((wAt (wn a t) (i + 1)).2.1 - (wAt (wn a t) i).2.1) ∧ (wAt (wn a t) i).2.1 ≤ (wAt (wn a t) (i + 1)).2.1
  | [], a, _, _, i, h => by simp at h
  | [p], a, _, _, i, h => by simp at h
  | p :: q :: t, a, hs, hd, i, h => by
    have h1 := List.pairwise_cons.1 hs
    have dp := hd p List.mem_cons_self
    have dq := hd q (List.mem_cons_of_mem _ List.mem_cons_self)
    cases i with
    | zero =>
      have hpq := h1.1 q List.mem_cons_self
      have := wn_step p q t a dp.2 hpq dq.1
      simp only [wn, wAt, List.getElem?_cons_zero, List.getElem?_cons_succ, Option.getD_some]
      exact ⟨this, hpq⟩
    | succ i =>
      have ih := wn_nums (q :: t) (a + 2 ^ (24 - p.2)) h1.2 (fun r hr => ⟨(hd r (List.mem_cons_of_mem _ hr)).1, Nat.dvd_add (hd r (List.mem_cons_of_mem _ hr)).2 (pow_dvd (by have := h1.1 r hr; omega))⟩) i (by simpa using h)
      simp only [wn, wAt, List.getElem?_cons_succ] at ih ⊢
      exact ih
theorem words_step (l : List Nat) (h24 : ∀ w ∈ l, w ≤ 24) (i : Nat) (h : i + 1 < (words l).length) :
    (wAt (words l) (i + 1)).2.2 = ((wAt (words l) i).2.2 + 1) * 2 ^ ((wAt (words l) (i + 1)).2.1 - (wAt (words l) i).2.1) ∧ (wAt (words l) i).2.1 ≤ (wAt (words l) (i + 1)).2.1 := by
  refine wn_nums _ 0 ((wsort_sorted _).imp (fun h => by unfold wle at h; omega)) (fun p hp => ⟨?_, Nat.dvd_zero _⟩) i (by rw [← wn_length (wsort (uws 0 l)) 0]; exact h)
  obtain ⟨j, h1, h2, h3⟩ := (uws_mem l 0 p).1 ((wsort_perm _).subset hp)
  exact h24 _ (List.mem_of_getElem? h2)
theorem words_first (l : List Nat) : ∀ x, (words l)[0]? = some x → x.2.2 = 0 := by
  intro x hx
  unfold words at hx
  match hq : wsort (uws 0 l), hx with
  | [], hx => simp [wn] at hx
  | p :: t, hx => simp [wn] at hx; subst hx; simp
theorem words_w0 (l : List Nat) : (words l).map (fun x => (x.1, x.2.1, 0)) = w0 (wsort (uws 0 l)) := by
  rw [← words_map, w0, List.map_map]; rfl
theorem words_len (l : List Nat) : (words l).length = (uws 0 l).length := by
  unfold words; rw [wn_length, (wsort_perm _).length_eq]
theorem wAt_mem (W : List Wn) (i : Nat) (h : i < W.length) : wAt W i ∈ W := by unfold wAt; rw [List.getElem?_eq_getElem h]; exact List.getElem_mem h

theorem own_at {w : World} {base : Nat} {e : TypeId} {k g n cap : Nat} {xs : List Value} (h : w.ownsRow base e k (.slice (some ⟨g, 0, none⟩) n cap) n xs) {j : Nat} {u : Value} (hu : xs[j]? = some u) :
    w.cell? ⟨g, j, none⟩ = some u ∧ w.frozen? ⟨g, j, none⟩ = false ∧ base ≤ g ∧ g < w.heap.size := by
  rcases h.2 with ⟨h, _⟩ | ⟨g', cap', cur, hv, hb, hg, h1, h2, h3, h4⟩
  · cases h
  · simp only [Value.slice.injEq, Option.some.injEq, Addr.mk.injEq, and_true, true_and] at hv
    obtain ⟨rfl, rfl⟩ := hv
    refine ⟨?_, by simp [World.frozen?, hg], hb, (Array.getElem?_eq_some_iff.1 hg).1⟩
    rw [cell_at hg, ← hu, ← h4]
    have hj : j < n * k := by have := (List.getElem?_eq_some_iff.1 hu).1; rw [h.1] at this; exact this
    rw [List.getElem?_take_of_lt hj]; simp
theorem own_put {w : World} {base : Nat} {e : TypeId} {k g n cap : Nat} {xs : List Value} (h : w.ownsRow base e k (.slice (some ⟨g, 0, none⟩) n cap) n xs) (j : Nat) (u : Value) :
    (w.setCell ⟨g, j, none⟩ u).ownsRow base e k (.slice (some ⟨g, 0, none⟩) n cap) n (xs.set j u) := by
  refine ⟨by simpa using h.1, .inr ?_⟩
  rcases h.2 with ⟨h, _⟩ | ⟨g', cap', cur, hv, hb, hg, h1, h2, h3, h4⟩
  · cases h
  · simp only [Value.slice.injEq, Option.some.injEq, Addr.mk.injEq, and_true, true_and] at hv
    obtain ⟨rfl, rfl⟩ := hv
    refine ⟨g, cap, cur.setIfInBounds j u, rfl, hb, ?_, h1, h2, by simpa using h3, ?_⟩
    · simp [World.setCell, Array.getElem?_modify, hg]
    · rw [Array.toList_setIfInBounds, List.take_set, h4]
theorem encs_get (W : List Wn) (i c : Nat) (hi : i < W.length) (hc : c < 3) : (W.flatMap encW)[i * 3 + c]? = (encW (wAt W i))[c]? := by
  have hl := flatMap_len encW 3 encW_len W
  have h := flatMap_get encW 3 encW_len W (i * 3 + c) (by omega)
  rw [show (i * 3 + c) / 3 = i by omega, show (i * 3 + c) % 3 = c by omega] at h
  have e1 : W[i]?.getD default = wAt W i := rfl
  rw [e1] at h
  rw [List.getElem?_eq_getElem (show i * 3 + c < (W.flatMap encW).length by omega)] at h ⊢
  rw [List.getElem?_eq_getElem (show c < (encW (wAt W i)).length from hc)] at h ⊢
  exact congrArg some h
theorem encs_set (W : List Wn) (i : Nat) (hi : i < W.length) (v : Nat) : (W.set i ((wAt W i).1, (wAt W i).2.1, v)).flatMap encW = (W.flatMap encW).set (i * 3 + 2) (.int .u64 (v : Int)) := by
  apply List.ext_getElem?
  intro t
  have hl := flatMap_len encW 3 encW_len W
  have hl2 := flatMap_len encW 3 encW_len (W.set i ((wAt W i).1, (wAt W i).2.1, v))
  rw [List.length_set] at hl2
  rw [List.getElem?_set]
  by_cases ht : t < W.length * 3
  · have et : t = t / 3 * 3 + t % 3 := by omega
    have h3 : t % 3 < 3 := Nat.mod_lt _ (by omega)
    have hq : t / 3 < W.length := by omega
    have e1 := encs_get (W.set i ((wAt W i).1, (wAt W i).2.1, v)) (t / 3) (t % 3) (by rw [List.length_set]; exact hq) h3
    have e2 := encs_get W (t / 3) (t % 3) hq h3
    rw [← et] at e1 e2
    rw [e1, e2]
    have e3 : wAt (W.set i ((wAt W i).1, (wAt W i).2.1, v)) (t / 3) = if t / 3 = i then ((wAt W i).1, (wAt W i).2.1, v) else wAt W (t / 3) := by
      unfold wAt
      rw [List.getElem?_set]
      by_cases h : i = t / 3
      · rw [if_pos h, if_pos hi, if_pos h.symm]; rfl
      · rw [if_neg h, if_neg (fun e => h e.symm)]
    rw [e3]
    by_cases h : t / 3 = i
    · rw [if_pos h, h]
      by_cases hc : i * 3 + 2 = t
      · rw [if_pos hc, if_pos (by rw [hl]; omega)]
        have : t % 3 = 2 := by omega
        rw [this]; rfl
      · rw [if_neg hc]
        have : t % 3 = 0 ∨ t % 3 = 1 := by omega
        rcases this with h' | h' <;> rw [h'] <;> rfl
    · rw [if_neg h, if_neg (by omega)]
  · rw [List.getElem?_eq_none (by omega), if_neg (by omega), List.getElem?_eq_none (by omega)]

/-- At each round's head: i words have their numbers. -/
def WoRel (l : List Nat) (w : World) (v p : Value) (wr : World) : Prop :=
  ∃ i : Nat, 1 ≤ i ∧ p = .int .i64 (i : Int) ∧ wr.ownsRow w.heap.size 140 3 v (words l).length ((wmix i (words l)).flatMap encW) ∧ Below w.heap.size w wr

set_option maxHeartbeats 1000000 in
theorem wordsOf_ok (l : List Nat) (n : Nat) (hn : l.length = n) (h64 : n ≤ 64) (h24 : ∀ x ∈ l, x ≤ 24) (hr : tkn l ≤ 16777216) (A : Option Addr) (c : Nat) (w : World) (h : RdV w w.heap.size A (zc (ns l))) :
    Calls Tryz.prog 93 #[.slice A n c] w fun e w' => ∃ v, e = .returned (.tuple #[v, .int .i64 0]) ∧ w'.ownsRow w.heap.size 140 3 v (words l).length ((words l).flatMap encW) ∧ Below w.heap.size w w' := by
  have HC := Lib.hid (room_ok l n hn h64 h24 A c w h)
  have HS : Hid (∀ V, Below w.heap.size w V → Calls Tryz.prog 132 #[.slice A n c] V fun e w' => ∃ v, e = .returned v ∧ w'.ownsRow w.heap.size 140 3 v (words l).length ((wmix 1 (words l)).flatMap encW) ∧ Below w.heap.size w w') := by
    intro V hV
    refine (sorted_ok l n hn h64 A c V (h.below hV hV.size)).mono ?_
    rintro e w' ⟨v, he, ho, hb⟩
    rw [wmix_one _ (words_first l), words_w0, words_len]
    exact ⟨v, he, own_base ho hV.size, hV.trans (hb.mono hV.size)⟩
  have HW := Lib.hid (words_step l h24)
  have HQ : Hid (∀ i, i < (words l).length → (wAt (words l) i).2.2 < 16777216 ∧ (wAt (words l) i).2.1 ≤ 24) := by
    intro i hi
    have hw := words_ok l h24
    have hm := wAt_mem _ i hi
    have h1 := words_lt hw hr hm
    have h2 := (hw.mem _ hm).2
    have h3 : 2 ^ (wAt (words l) i).2.1 ≤ 2 ^ 24 := Nat.pow_le_pow_right (by omega) h2.2
    exact ⟨by omega, h2.2⟩
  have HL : Hid ((words l).length ≤ 64) := by show _ ≤ _; rw [words_len]; have := uws_len l 0; omega
  clear h hn
  have hT : ¬ ((16777216 : Int) - (tkn l : Int) < 0) := by omega
  generalize (16777216 : Int) - (tkn l : Int) = R at *
  go_enter Tryz.func93, Tryz.ntmps93
  go_wp2_with fail
  refine HC.out.mono ?_
  rintro e w1 ⟨rfl, b1⟩
  go_wp2_with fail
  refine (HS.out w1 b1).mono ?_
  rintro e w2 ⟨v, rfl, o2, b2⟩
  clear b1
  rcases o2.2 with ⟨rfl, h0⟩ | ⟨g, cap, cur, rfl, hb, hg, h1, h2, h3, h4⟩
  · have HO : Hid (w2.ownsRow w.heap.size 140 3 (.slice none 0 0) (words l).length ((words l).flatMap encW)) := by
      have e0 : words l = [] := List.eq_nil_of_length_eq_zero h0
      show World.ownsRow _ _ _ _ _ _ _
      rw [e0]
      exact ⟨rfl, .inl ⟨rfl, rfl⟩⟩
    have HB := Lib.hid b2
    clear o2 b2 h0
    go_wp2
    refine wp_loop_rounds 1 ?_
    rw [rounds_succ]
    go_wp2
    go_ret2
    exact ⟨_, rfl, HO.out, HB.out⟩
  · have HO := Lib.hid o2; have HB := Lib.hid b2
    have hm : (words l).length ≤ 64 := HL.out
    clear o2 b2 hg h3 h4 hb
    generalize hmm : (words l).length = m at *
    have HM := Lib.hid hmm; clear hmm
    go_wp2
    go_loopw [7] (fun p wr => WoRel l w (.slice (some ⟨g, 0, none⟩) m cap) p wr) (fun p _ => m - (intOf p).toNat)
    case atStart => exact ⟨1, Nat.le_refl _, rfl, by rw [HM.out]; exact HO.out, HB.out⟩
    case round =>
      obtain ⟨i, hi1, rfl, hrow, hbel⟩ := hrel
      rw [HM.out] at hrow
      by_cases hlt : i < m
      · obtain ⟨ew, elw⟩ := HW.out (i - 1) (by omega)
        rw [show i - 1 + 1 = i by omega] at ew elw
        have l0 := wmix_lo i (words l) (i - 1) (by omega) (by rw [HM.out]; omega)
        have l1 := wmix_hi i (words l) i (Nat.le_refl _) (by rw [HM.out]; omega)
        have f0 := fun c hc => encs_get (wmix i (words l)) (i - 1) c (by rw [wmix_len, HM.out]; omega) hc
        have f1 := fun c hc => encs_get (wmix i (words l)) i c (by rw [wmix_len, HM.out]; omega) hc
        have g0 : wAt (wmix i (words l)) (i - 1) = wAt (words l) (i - 1) := by unfold wAt at l0 ⊢; rw [l0]; rfl
        have g1 : wAt (wmix i (words l)) i = ((wAt (words l) i).1, (wAt (words l) i).2.1, 0) := by unfold wAt at l1 ⊢; rw [l1]; rfl
        rw [g0] at f0
        rw [g1] at f1
        have hset : (wmix (i + 1) (words l)).flatMap encW = ((wmix i (words l)).flatMap encW).set (i * 3 + 2) (.int .u64 ((wAt (words l) i).2.2 : Int)) := by
          rw [wmix_succ i _ (by rw [HM.out]; exact hlt), ← encs_set _ i (by rw [wmix_len, HM.out]; omega), g1]
        have hn24 := HQ.out i hlt
        obtain ⟨a0, a1⟩ : ∃ s0 : Nat, (wAt (words l) (i - 1)).1 = s0 := ⟨_, rfl⟩
        obtain ⟨c00, z00, hbg, hgs⟩ := own_at hrow (show ((wmix i (words l)).flatMap encW)[(i - 1) * 3]? = some (.int .i64 ((wAt (words l) (i - 1)).1 : Int)) from f0 0 (by omega))
        have c01 := (own_at hrow (show ((wmix i (words l)).flatMap encW)[(i - 1) * 3 + 1]? = some (.int .i64 ((wAt (words l) (i - 1)).2.1 : Int)) from f0 1 (by omega))).1
        have c02 := (own_at hrow (show ((wmix i (words l)).flatMap encW)[(i - 1) * 3 + 2]? = some (.int .u64 ((wAt (words l) (i - 1)).2.2 : Int)) from f0 2 (by omega))).1
        have c11 := (own_at hrow (show ((wmix i (words l)).flatMap encW)[i * 3 + 1]? = some (.int .i64 ((wAt (words l) i).2.1 : Int)) from f1 1 (by omega))).1
        obtain ⟨c12, z12, _, _⟩ := own_at hrow (show ((wmix i (words l)).flatMap encW)[i * 3 + 2]? = some (.int .u64 (0 : Int)) from f1 2 (by omega))
        have HO' := Lib.hid hrow; have HB' := Lib.hid hbel; have HSet := Lib.hid hset
        clear hrow hbel hset l0 l1 f0 f1 g0 g1 z00 a0 a1
        generalize (wAt (words l) (i - 1)).1 = s0 at *
        generalize (wAt (words l) (i - 1)).2.1 = wb at *
        generalize (wAt (words l) (i - 1)).2.2 = nb0 at *
        generalize (wAt (words l) i).2.1 = wi at *
        generalize (wAt (words l) i).2.2 = nn at *
        obtain ⟨q, hq⟩ : ∃ q : Nat, 2 ^ (wi - wb) = q := ⟨_, rfl⟩
        have hqp : 0 < q := by rw [← hq]; exact Nat.two_pow_pos _
        have hq2 : (2 : Int) ^ (wi - wb) = (q : Int) := by rw [← hq]; simp
        rw [hq] at ew
        have e2 : (2 : Int) ^ ((wi : Int) - (wb : Int)).toNat = (q : Int) := by rw [show ((wi : Int) - (wb : Int)).toNat = wi - wb by omega]; exact hq2
        have hnb : nb0 < 18446744073709551615 := by
          have : (nb0 + 1) * 1 ≤ (nb0 + 1) * q := Nat.mul_le_mul_left _ hqp
          omega
        have hw01 : ¬ ((wi : Int) - (wb : Int) < 0) := by omega
        have HEW := Lib.hid ew
        have ew2 : ((nb0 : Int) + 1) * (q : Int) = (nn : Int) := by rw [ew]; simp
        clear hq ew
        go_wp2
        go_region
        have hbs : w.heap.size ≤ wr.heap.size := HB'.out.size
        have HO2 : Hid (((wr.setCell ⟨g, i * 3 + 2, none⟩ (.int .u64 (nn : Int))).alloc (.cells #[.int .i64 (s0 : Int), .int .i64 (wb : Int), .int .u64 (nb0 : Int)] 140)).drew.ownsRow w.heap.size 140 3 (.slice (some ⟨g, 0, none⟩) m cap) m ((wmix (i + 1) (words l)).flatMap encW)) := by
          show World.ownsRow _ _ _ _ _ _ _
          rw [HSet.out]
          exact (own_put HO'.out (i * 3 + 2) (.int .u64 (nn : Int))).alloc _
        have HB2 : Hid (Below w.heap.size w ((wr.setCell ⟨g, i * 3 + 2, none⟩ (.int .u64 (nn : Int))).alloc (.cells #[.int .i64 (s0 : Int), .int .i64 (wb : Int), .int .u64 (nb0 : Int)] 140)).drew) :=
          ((HB'.out.setCell hbg _).alloc (by simpa [World.setCell] using hbs) _).drew
        go_wp2
        go_roundw
        case rel => exact ⟨i + 1, by omega, by go_num, by rw [HM.out]; exact HO2.out, HB2.out⟩
        case measure => simp [intOf]; omega
      · have he := wmix_all i (words l) (by rw [HM.out]; omega)
        rw [he] at hrow
        have HO' := Lib.hid hrow; have HB' := Lib.hid hbel
        clear hrow hbel he
        go_wp2
        go_ret2
        exact ⟨_, rfl, by rw [HM.out]; exact HO'.out, HB'.out⟩

set_option maxHeartbeats 400000 in
theorem wordsOf_e (xs : List Int) (n : Nat) (hn : xs.length = n) (hn2 : n ≤ 9223372036854775807) (r : Int) (hr : kchk xs = r) (h0 : r ≠ 0) (A : Option Addr) (c : Nat) (w : World) (h : RdV w w.heap.size A (zc xs)) :
    Calls Tryz.prog 93 #[.slice A n c] w fun e w' => e = .returned (.tuple #[.slice none 0 0, .int .i64 r]) ∧ Below w.heap.size w w' := by
  have HC := Lib.hid (room_e xs n hn hn2 r hr h0 A c w h)
  clear h hn hr
  have t0 : (r == 0) = false := by simpa using h0
  clear h0
  go_enter Tryz.func93, Tryz.ntmps93
  go_wp2_with fail
  refine HC.out.mono ?_
  rintro e w1 ⟨rfl, b1⟩
  go_wp2
  go_ret2
  exact ⟨rfl, b1⟩
set_option maxHeartbeats 400000 in
theorem wordsOf_full (l : List Nat) (n : Nat) (hn : l.length = n) (h64 : n ≤ 64) (h24 : ∀ x ∈ l, x ≤ 24) (hr : 16777216 < tkn l) (A : Option Addr) (c : Nat) (w : World) (h : RdV w w.heap.size A (zc (ns l))) :
    Calls Tryz.prog 93 #[.slice A n c] w fun e w' => e = .returned (.tuple #[.slice none 0 0, .int .i64 8]) ∧ Below w.heap.size w w' := by
  have HC := Lib.hid (room_ok l n hn h64 h24 A c w h)
  clear h hn
  have hT : (16777216 : Int) - (tkn l : Int) < 0 := by omega
  generalize (16777216 : Int) - (tkn l : Int) = R at *
  go_enter Tryz.func93, Tryz.ntmps93
  go_wp2_with fail
  refine HC.out.mono ?_
  rintro e w1 ⟨rfl, b1⟩
  go_wp2
  go_ret2
  exact ⟨rfl, b1⟩
end

section
set_option maxRecDepth 100000
set_option linter.unusedVariables false
open Go.RowKit Go.Shelf Go.Sort

/-- Bits that lie in memory: how many, where, what bytes. -/
abbrev Rx := Int × Option Addr × Nat × List Nat
/-- A slice of bits, below a block. -/
def RdR (w : World) (B : Nat) (A : Option Addr) (rs : List Rx) : Prop :=
  rs = [] ∨ ∃ b off, A = some ⟨b, off, none⟩ ∧ b < B ∧ ∀ i x, rs[i]? = some x → w.cell? ⟨b, off + i * 2, none⟩ = some (.int .i64 x.1) ∧ w.cell? ⟨b, off + i * 2 + 1, none⟩ = some (.slice x.2.1 x.2.2.2.length x.2.2.1) ∧ Rd w B x.2.1 x.2.2.2
theorem RdR.below {w w' : World} {B B' : Nat} {A : Option Addr} {rs : List Rx} (h : RdR w B A rs) (hb : Below B w w') (hB : B ≤ B') : RdR w' B' A rs := by
  rcases h with h | ⟨b, off, e, hlt, hc⟩
  · exact .inl h
  · refine .inr ⟨b, off, e, by omega, fun i x hx => ?_⟩
    obtain ⟨h1, h2, h3⟩ := hc i x hx
    exact ⟨(World.cell?_of_block (w := w) (a := ⟨b, off + i * 2, none⟩) (hb.block b hlt)).trans h1, (World.cell?_of_block (w := w) (a := ⟨b, off + i * 2 + 1, none⟩) (hb.block b hlt)).trans h2, h3.below hb hB⟩
theorem RdR.on {w V : World} {A : Option Addr} {rs : List Rx} (h : RdR w w.heap.size A rs) (hb : Below w.heap.size w V) : RdR V V.heap.size A rs := h.below hb hb.size
theorem RdR.at_ {w : World} {B : Nat} {A : Option Addr} {rs : List Rx} (h : RdR w B A rs) {i : Nat} {x : Rx} (hi : rs[i]? = some x) :
    ∃ b off, A = some ⟨b, off, none⟩ ∧ b < B ∧ w.cell? ⟨b, off + i * 2, none⟩ = some (.int .i64 x.1) ∧ w.cell? ⟨b, off + i * 2 + 1, none⟩ = some (.slice x.2.1 x.2.2.2.length x.2.2.1) ∧ Rd w B x.2.1 x.2.2.2 := by
  rcases h with h | ⟨b, off, e, hb, hc⟩
  · rw [h] at hi; simp at hi
  · exact ⟨b, off, e, hb, hc i x hi⟩
/-- Bits that are right. -/
abbrev Bx := List Bool × Option Addr × Nat
def rx (x : Bx) : Rx := ((x.1.length : Int), x.2.1, x.2.2, pack x.1)
def encB (x : Bx) : List Value := [.int .i64 (x.1.length : Int), .slice x.2.1 (pack x.1).length x.2.2]
theorem encB_len (x : Bx) : (encB x).length = 2 := rfl
theorem encB_one (x : Bx) : ∀ u ∈ encB x, u.oneCell' = true := by
  intro u hu
  simp [encB] at hu
  rcases hu with rfl | rfl <;> rfl
def bAt (bs : List Bx) (i : Nat) : Bx := bs[i]?.getD ([], none, 0)
theorem encBs_get (bs : List Bx) (i c : Nat) (hi : i < bs.length) (hc : c < 2) : (bs.flatMap encB)[i * 2 + c]? = (encB (bAt bs i))[c]? := by
  have hl := flatMap_len encB 2 encB_len bs
  have h := flatMap_get encB 2 encB_len bs (i * 2 + c) (by omega)
  rw [show (i * 2 + c) / 2 = i by omega, show (i * 2 + c) % 2 = c by omega] at h
  have e1 : bs[i]?.getD default = bAt bs i := rfl
  rw [e1] at h
  rw [List.getElem?_eq_getElem (show i * 2 + c < (bs.flatMap encB).length by omega)] at h ⊢
  rw [List.getElem?_eq_getElem (show c < (encB (bAt bs i)).length from hc)] at h ⊢
  exact congrArg some h
theorem encBs_set (bs : List Bx) (i : Nat) (hi : i < bs.length) (x : Bx) : (bs.set i x).flatMap encB = ((bs.flatMap encB).set (i * 2) (.int .i64 (x.1.length : Int))).set (i * 2 + 1) (.slice x.2.1 (pack x.1).length x.2.2) := by
  apply List.ext_getElem?
  intro t
  have hl := flatMap_len encB 2 encB_len bs
  have hl2 := flatMap_len encB 2 encB_len (bs.set i x)
  rw [List.length_set] at hl2
  rw [List.getElem?_set, List.getElem?_set, List.length_set]
  by_cases ht : t < bs.length * 2
  · have et : t = t / 2 * 2 + t % 2 := by omega
    have h3 : t % 2 < 2 := Nat.mod_lt _ (by omega)
    have hq : t / 2 < bs.length := by omega
    have e1 := encBs_get (bs.set i x) (t / 2) (t % 2) (by rw [List.length_set]; exact hq) h3
    have e2 := encBs_get bs (t / 2) (t % 2) hq h3
    rw [← et] at e1 e2
    rw [e1, e2]
    have e3 : bAt (bs.set i x) (t / 2) = if t / 2 = i then x else bAt bs (t / 2) := by
      unfold bAt
      rw [List.getElem?_set]
      by_cases h : i = t / 2
      · rw [if_pos h, if_pos hi, if_pos h.symm]; rfl
      · rw [if_neg h, if_neg (fun e => h e.symm)]
    rw [e3]
    by_cases h : t / 2 = i
    · rw [if_pos h]
      rcases (show t % 2 = 0 ∨ t % 2 = 1 by omega) with hc | hc
      · rw [if_neg (by omega), if_pos (by omega), if_pos (by omega), hc]; rfl
      · rw [if_pos (by omega), if_pos (by omega), hc]; rfl
    · rw [if_neg h, if_neg (by omega), if_neg (by omega)]
  · rw [List.getElem?_eq_none (by omega), if_neg (by omega), if_neg (by omega), List.getElem?_eq_none (by omega)]
theorem bits_made (k : Nat) : (madeCells (Value.agg #[.int .i64 0, .slice none 0 0]).cells (k * 2)).toList = (List.replicate k (([], none, 0) : Bx)).flatMap encB := by
  have hl := flatMap_len encB 2 encB_len (List.replicate k (([], none, 0) : Bx))
  rw [List.length_replicate] at hl
  have hc : (Value.agg #[.int .i64 0, .slice none 0 0]).cells = #[.int .i64 0, .slice none 0 0] := rfl
  rw [hc]
  apply List.ext_getElem?
  intro t
  by_cases ht : t < k * 2
  · have e2 := encBs_get (List.replicate k (([], none, 0) : Bx)) (t / 2) (t % 2) (by simp; omega) (Nat.mod_lt _ (by omega))
    rw [show t / 2 * 2 + t % 2 = t by omega] at e2
    have e3 : bAt (List.replicate k (([], none, 0) : Bx)) (t / 2) = ([], none, 0) := by
      unfold bAt; rw [List.getElem?_replicate]; split <;> rfl
    rw [e2, e3]
    simp [madeCells, ht]
    rcases (show t % 2 = 0 ∨ t % 2 = 1 by omega) with h | h <;> simp [h, encB, pack_nil]
  · rw [List.getElem?_eq_none (by simp [madeCells]; omega), List.getElem?_eq_none (by omega)]
theorem info_bits : (Tryz.prog.info? 35).map (fun i => (i.zero, i.size, i.bytes)) = some (some (.agg #[.int .i64 0, .slice none 0 0]), 2, 32) := by kernel_rfl
/-- A row of bits of the call's own reads as its bits. -/
theorem own_rdr {w : World} {base g n cap : Nat} {bs : List Bx} (h : w.ownsRow base 35 2 (.slice (some ⟨g, 0, none⟩) n cap) n (bs.flatMap encB)) (hr : ∀ x ∈ bs, Rd w w.heap.size x.2.1 (pack x.1)) : RdR w w.heap.size (some ⟨g, 0, none⟩) (bs.map rx) := by
  by_cases h0 : bs = []
  · subst h0; exact .inl rfl
  · have hp : 0 < bs.length := List.length_pos_iff.2 h0
    have k0 := own_at h (encBs_get bs 0 0 hp (by omega))
    refine .inr ⟨g, 0, rfl, k0.2.2.2, fun i x hx => ?_⟩
    rw [List.getElem?_map] at hx
    obtain ⟨y, hy, rfl⟩ := Option.map_eq_some_iff.1 hx
    have hi : i < bs.length := (List.getElem?_eq_some_iff.1 hy).1
    have eb : bAt bs i = y := by unfold bAt; rw [hy]; rfl
    have a0 := (own_at h (encBs_get bs i 0 hi (by omega))).1
    have a1 := (own_at h (encBs_get bs i 1 hi (by omega))).1
    rw [eb] at a0 a1
    rw [Nat.zero_add]
    exact ⟨a0, a1, hr y (List.mem_of_getElem? hy)⟩

theorem own_keep {w w' : World} {base : Nat} {e : TypeId} {k n : Nat} {v : Value} {xs : List Value} (h : w.ownsRow base e k v n xs) (hk : ∀ j, j < w.heap.size → w'.heap[j]? = w.heap[j]?) : w'.ownsRow base e k v n xs := by
  refine ⟨h.1, ?_⟩
  rcases h.2 with h | ⟨g, cap, cur, h1, h2, h3, h4⟩
  · exact .inl h
  · exact .inr ⟨g, cap, cur, h1, h2, (hk g (Array.getElem?_eq_some_iff.1 h3).1).trans h3, h4⟩
/-- Bytes lie in no row of bits. -/
theorem rd_row {w : World} {base g n B : Nat} {bs : List Bx} {A : Option Addr} {by' : List Nat} (h : w.ownsRow base 35 2 (.slice (some ⟨g, 0, none⟩) n n) n (bs.flatMap encB)) (hr : Rd w B A by') (w' : World) (hw : ∀ b, b ≠ g → w'.heap[b]? = w.heap[b]?) : Rd w' B A by' := by
  rcases hr with hr | ⟨b, off, rfl, hb, hc⟩
  · exact .inl hr
  · by_cases h0 : by' = []
    · exact .inl h0
    · have hne : b ≠ g := by
        rintro rfl
        have hp : 0 < by'.length := List.length_pos_iff.2 h0
        have k0 := hc 0 hp
        rcases h.2 with ⟨h', _⟩ | ⟨g', cap', cur, hv, _, hg, h1, h2, h3, h4⟩
        · cases h'
        · simp only [Value.slice.injEq, Option.some.injEq, Addr.mk.injEq, and_true, true_and] at hv
          obtain ⟨rfl, rfl⟩ := hv
          rw [cell_at hg] at k0
          have hm : (Value.int .u8 ((by'[0]?.getD 0 : Nat) : Int)) ∈ cur.toList := by
            obtain ⟨hlt, e⟩ := Array.getElem?_eq_some_iff.1 k0
            rw [← e]; exact Array.getElem_mem_toList hlt
          rw [List.take_of_length_le (by simp [h3])] at h4
          rw [h4] at hm
          obtain ⟨x, _, hx⟩ := List.mem_flatMap.1 hm
          simp [encB] at hx
      exact .inr ⟨b, off, rfl, hb, fun i hi => (World.cell?_of_block (w := w) (a := ⟨b, off + i, none⟩) (hw b hne)).trans (hc i hi)⟩
/-- A slice of words, below a block. -/
def RdW (w : World) (B : Nat) (A : Option Addr) (W : List Wn) : Prop :=
  W = [] ∨ ∃ b off, A = some ⟨b, off, none⟩ ∧ b < B ∧ ∀ i x, W[i]? = some x → w.cell? ⟨b, off + i * 3, none⟩ = some (.int .i64 (x.1 : Int)) ∧ w.cell? ⟨b, off + i * 3 + 1, none⟩ = some (.int .i64 (x.2.1 : Int)) ∧ w.cell? ⟨b, off + i * 3 + 2, none⟩ = some (.int .u64 (x.2.2 : Int))
theorem RdW.below {w w' : World} {B B' : Nat} {A : Option Addr} {W : List Wn} (h : RdW w B A W) (hb : Below B w w') (hB : B ≤ B') : RdW w' B' A W := by
  rcases h with h | ⟨b, off, e, hlt, hc⟩
  · exact .inl h
  · refine .inr ⟨b, off, e, by omega, fun i x hx => ?_⟩
    obtain ⟨h1, h2, h3⟩ := hc i x hx
    exact ⟨(World.cell?_of_block (w := w) (a := ⟨b, off + i * 3, none⟩) (hb.block b hlt)).trans h1, (World.cell?_of_block (w := w) (a := ⟨b, off + i * 3 + 1, none⟩) (hb.block b hlt)).trans h2, (World.cell?_of_block (w := w) (a := ⟨b, off + i * 3 + 2, none⟩) (hb.block b hlt)).trans h3⟩
theorem RdW.at_ {w : World} {B : Nat} {A : Option Addr} {W : List Wn} (h : RdW w B A W) {i : Nat} {x : Wn} (hi : W[i]? = some x) :
    ∃ b off, A = some ⟨b, off, none⟩ ∧ b < B ∧ w.cell? ⟨b, off + i * 3, none⟩ = some (.int .i64 (x.1 : Int)) ∧ w.cell? ⟨b, off + i * 3 + 1, none⟩ = some (.int .i64 (x.2.1 : Int)) ∧ w.cell? ⟨b, off + i * 3 + 2, none⟩ = some (.int .u64 (x.2.2 : Int)) := by
  rcases h with h | ⟨b, off, e, hb, hc⟩
  · rw [h] at hi; simp at hi
  · exact ⟨b, off, e, hb, hc i x hi⟩
theorem own_rdw {w : World} {base n : Nat} {v : Value} {W : List Wn} (hn : W.length = n) (h : w.ownsRow base 140 3 v n (W.flatMap encW)) : ∃ A c, v = .slice A n c ∧ RdW w w.heap.size A W := by
  rcases h.2 with ⟨rfl, rfl⟩ | ⟨g, cap, cur, rfl, hb, hg, h1, h2, h3, h4⟩
  · exact ⟨none, 0, rfl, .inl (List.eq_nil_of_length_eq_zero hn)⟩
  · refine ⟨_, cap, rfl, ?_⟩
    refine .inr ⟨g, 0, rfl, (Array.getElem?_eq_some_iff.1 hg).1, fun i x hx => ?_⟩
    have hi : i < W.length := (List.getElem?_eq_some_iff.1 hx).1
    have eb : wAt W i = x := by unfold wAt; rw [hx]; rfl
    have a0 := (own_at h (encs_get W i 0 hi (by omega))).1
    have a1 := (own_at h (encs_get W i 1 hi (by omega))).1
    have a2 := (own_at h (encs_get W i 2 hi (by omega))).1
    rw [eb] at a0 a1 a2
    rw [Nat.zero_add]
    exact ⟨a0, a1, a2⟩
theorem codOf_snoc (U : List Wn) (x : Wn) (h : ∀ y ∈ U, y.1 ≠ x.1) (s : Nat) : codOf (U ++ [x]) s = if s = x.1 then code x else codOf U s := by
  unfold codOf
  rw [List.find?_append]
  by_cases hs : s = x.1
  · subst hs
    rw [if_pos rfl]
    have : U.find? (fun y => y.1 == x.1) = none := List.find?_eq_none.2 (fun y hy => by simpa using h y hy)
    rw [this]; simp
  · rw [if_neg hs]
    cases hf : U.find? (fun y => y.1 == s) with
    | some y => rfl
    | none =>
      have : ([x] : List Wn).find? (fun y => y.1 == s) = none := by simp; exact fun e => hs e.symm
      rw [this]; rfl
/-- Bits, one for each sign, and an error come back. -/
def GotC (w : World) (ls : List (List Bool)) (e : Ending) (w' : World) : Prop :=
  ∃ (A : Option Addr) (c : Nat) (bs : List Bx), e = .returned (.tuple #[.slice A ls.length c, .int .i64 0]) ∧ bs.map (fun x : Bx => x.1) = ls ∧ RdR w' w'.heap.size A (bs.map rx) ∧ Below w.heap.size w w'
/-- At each round's head: the first i words' codes stand. -/
def CoRel (l : List Nat) (w2 : World) (g : Nat) (p : Value) (wr : World) : Prop :=
  ∃ (i : Nat) (bs : List Bx), i ≤ (words l).length ∧ p = .int .i64 (i : Int) ∧ bs.map (fun x : Bx => x.1) = (List.range l.length).map (codOf ((words l).take i)) ∧
    wr.ownsRow w2.heap.size 35 2 (.slice (some ⟨g, 0, none⟩) l.length l.length) l.length (bs.flatMap encB) ∧ (∀ x ∈ bs, Rd wr wr.heap.size x.2.1 (pack x.1)) ∧ Below w2.heap.size w2 wr

set_option maxHeartbeats 2000000 in
theorem codes_ok (l : List Nat) (n : Nat) (hn : l.length = n) (h64 : n ≤ 64) (h24 : ∀ x ∈ l, x ≤ 24) (hr : tkn l ≤ 16777216) (A : Option Addr) (c : Nat) (w : World) (h : RdV w w.heap.size A (zc (ns l))) :
    Calls Tryz.prog 50 #[.slice A n c] w (GotC w (codes l)) := by
  obtain ⟨i0, hi, hz0, hz1, hz2⟩ := info_parts info_bits
  have HC := Lib.hid (wordsOf_ok l n hn h64 h24 hr A c w h)
  have HWd := Lib.hid (words_ok l h24)
  have HL : Hid ((words l).length ≤ 64) := by show _ ≤ _; rw [words_len]; have := uws_len l 0; omega
  have HR := Lib.hid hr
  have HN := Lib.hid hn
  clear h
  go_enter Tryz.func50, Tryz.ntmps50
  go_wp2_with fail
  refine HC.out.mono ?_
  rintro e w2 ⟨v, rfl, o2, b2⟩
  obtain ⟨Av, cv, rfl, rw2⟩ := own_rdw rfl o2
  have HO := Lib.hid rw2; have HB := Lib.hid b2
  clear o2 b2 rw2 hr
  go_wp2_with (at_make; refine wpList_make_full _ rfl _ _ 83 rfl w2.heap.size 35 i0 (.agg #[.int .i64 0, .slice none 0 0]) 2 Tryz.underlying83 hi hz0 hz1 _ _ _ _ n rfl rfl rfl rfl (by rw [hz2]; omega) (by unfold maxLen; omega) (Nat.le_refl _) ?_; intro w3 hown1 hgrow1)
  rw [bits_made] at hown1
  have HG : Hid (Below w2.heap.size w2 w3) := (Below.refl _ w2).grown hgrow1 (Nat.le_refl _) (fun k hk => by cases hk)
  have HO1 := Lib.hid hown1
  have hm64 : (words l).length ≤ 64 := HL.out
  clear hown1 hgrow1
  generalize hmm : (words l).length = m at *
  have HM := Lib.hid hmm; clear hmm
  have HGG : Hid (w2.heap.size = w2.heap.size) := rfl
  obtain ⟨g, hg⟩ : ∃ g, w2.heap.size = g := ⟨_, rfl⟩
  rw [hg] at HO1
  rw [hg]
  go_wp2
  go_loopw [22] (fun p wr => CoRel l w2 g p wr) (fun p _ => m - (intOf p).toNat)
  case atStart =>
    refine ⟨0, List.replicate n ([], none, 0), Nat.zero_le _, rfl, ?_, ?_, ?_, HG.out⟩
    · rw [HN.out]
      apply List.ext_getElem
      · simp
      · intro i h1 h2; simp [codOf]
    · rw [HN.out, hg]; exact HO1.out
    · intro x hx
      rw [(List.mem_replicate.1 hx).2]
      exact .inl rfl
  case round =>
    obtain ⟨i, bs, hi', rfl, hbs, hrow, hrd, hbel⟩ := hrel
    rw [HM.out] at hi'
    rw [HN.out] at hrow
    have hbn : bs.length = n := by have := congrArg List.length hbs; simpa [HN.out] using this
    by_cases hlt : i < m
    · have hiw : i < (words l).length := by rw [HM.out]; exact hlt
      have hW := HO.out.below hbel hbel.size
      have hxm := wAt_mem (words l) i hiw
      have hx1 := HWd.out.mem _ hxm
      have hx2 := words_lt HWd.out HR.out hxm
      have hxi : (words l)[i]? = some (wAt (words l) i) := by unfold wAt; rw [List.getElem?_eq_getElem hiw]; rfl
      have hsn := codOf_snoc ((words l).take i) (wAt (words l) i) (fun y hy => by
        obtain ⟨j, hj, rfl⟩ := List.getElem_of_mem hy
        rw [List.length_take] at hj
        rw [List.getElem_take]
        have := List.pairwise_iff_getElem.1 HWd.out.row j i (by omega) hiw (by omega)
        unfold wAt
        rw [List.getElem?_eq_getElem hiw]
        exact this.2.2)
      have htk : (words l).take (i + 1) = (words l).take i ++ [wAt (words l) i] := by
        rw [List.take_succ_eq_append_getElem hiw]; unfold wAt; rw [List.getElem?_eq_getElem hiw]; rfl
      rw [← htk] at hsn
      obtain ⟨b, off, rfl, hb, c0, c1, c2⟩ := hW.at_ hxi
      have hsn' : (wAt (words l) i).1 < n := by
        have := (List.getElem?_eq_some_iff.1 hx1.1).1
        omega
      have hcl : (code (wAt (words l) i)).length = (wAt (words l) i).2.1 := code_length _
      have HCode : Hid (code (wAt (words l) i) = nb (wAt (words l) i).2.2 (wAt (words l) i).2.1) := rfl
      generalize wAt (words l) i = x at *
      obtain ⟨s, wd, nm⟩ := x
      simp only at c0 c1 c2 hx1 hx2 hsn' hcl HCode hsn
      have hnd : nm / 2 ^ wd = 0 := Nat.div_eq_of_lt (by omega)
      have hp24 : 2 ^ wd ≤ 2 ^ 24 := Nat.pow_le_pow_right (by omega) hx1.2.2
      obtain ⟨L, hLL⟩ : ∃ L, code (s, wd, nm) = L := ⟨_, rfl⟩
      have HP : Hid (∀ V : World, Calls Tryz.prog 81 #[.agg #[.int .i64 0, .slice none 0 0], .int .u64 (nm : Int), .int .i64 (wd : Int)] V (Gv V (wd : Int) (pack L).length (pack L) 0)) := by
        intro V
        have := put_l [] L none 0 nm wd (by omega) hnd (by simp; omega) (by omega) (by rw [← hLL, HCode.out]; rfl) V (.inl rfl)
        have e1 : L.length = wd := by rw [← hLL]; exact hcl
        rw [e1] at this
        exact this
      rw [hLL] at hsn hcl
      have d0 := own_at hrow (encBs_get bs s 0 (by omega) (by omega))
      have d1 := own_at hrow (encBs_get bs s 1 (by omega) (by omega))
      have HRow := Lib.hid hrow; have HRd := Lib.hid hrd; have HBel := Lib.hid hbel; have HSn := Lib.hid hsn; have HBs := Lib.hid hbs
      have HCl := Lib.hid hcl
      clear hrow hrd hbel hsn hbs hcl hxm hxi htk hW hnd HCode hLL hx2
      rw [Nat.add_zero] at d0
      have HD : Hid (∀ w' : World, Below wr.heap.size wr w' → w'.ownsRow w2.heap.size 35 2 (.slice (some ⟨g, 0, none⟩) n n) n (bs.flatMap encB)) := fun w' hw => own_keep HRow.out hw.block
      have hgw : g < wr.heap.size := d0.2.2.2
      have hgb : w2.heap.size ≤ g := d0.2.2.1
      have HD0 : Hid (∀ w' : World, Below wr.heap.size wr w' → w'.cell? ⟨g, s * 2, none⟩ = some (.int .i64 ((bAt bs s).1.length : Int)) ∧ w'.frozen? ⟨g, s * 2, none⟩ = false ∧ w'.cell? ⟨g, s * 2 + 1, none⟩ = some (.slice (bAt bs s).2.1 (pack (bAt bs s).1).length (bAt bs s).2.2) ∧ w'.frozen? ⟨g, s * 2 + 1, none⟩ = false) := by
        intro w' hw
        have q0 := own_at (HD.out w' hw) (encBs_get bs s 0 (by omega) (by omega))
        have q1 := own_at (HD.out w' hw) (encBs_get bs s 1 (by omega) (by omega))
        exact ⟨q0.1, q0.2.1, q1.1, q1.2.1⟩
      clear d0 d1
      generalize hu0 : (Value.int .i64 ((bAt bs s).1.length : Int)) = u0 at *
      generalize hu1 : (Value.slice (bAt bs s).2.1 (pack (bAt bs s).1).length (bAt bs s).2.2) = u1 at *
      clear hu0 hu1
      go_wp2_with fail
      generalize hV : wr.alloc (.cells #[.int .i64 (s : Int), .int .i64 (wd : Int), .int .u64 (nm : Int)] 140) = V0
      have HV : Hid (Below wr.heap.size wr V0) := hV ▸ one_below _ _
      have HVs : Hid (wr.heap.size + 1 = V0.heap.size) := by show _ = _; rw [← hV, World.size_alloc]
      have HK0 : Hid (∀ w' : World, w'.heap[wr.heap.size]? = V0.heap[wr.heap.size]? → w'.cell? ⟨wr.heap.size, 0, none⟩ = some (.int .i64 (s : Int)) ∧ w'.cell? ⟨wr.heap.size, 1, none⟩ = some (.int .i64 (wd : Int)) ∧ w'.cell? ⟨wr.heap.size, 2, none⟩ = some (.int .u64 (nm : Int))) := by
        subst hV
        intro w' h
        have k0 := h.trans (World.alloc_heap_new wr (.cells #[.int .i64 (s : Int), .int .i64 (wd : Int), .int .u64 (nm : Int)] 140))
        exact ⟨(cell_at k0 _).trans rfl, (cell_at k0 _).trans rfl, (cell_at k0 _).trans rfl⟩
      clear hV
      have HK : Hid (∀ w' : World, Below V0.heap.size V0 w' → w'.cell? ⟨wr.heap.size, 0, none⟩ = some (.int .i64 (s : Int)) ∧ w'.cell? ⟨wr.heap.size, 1, none⟩ = some (.int .i64 (wd : Int)) ∧ w'.cell? ⟨wr.heap.size, 2, none⟩ = some (.int .u64 (nm : Int))) := fun w' h => HK0.out w' (h.block _ (by rw [← HVs.out]; omega))
      have HK2 : Hid (∀ w5 : World, Below V0.heap.size V0 w5 → ∀ (j j' : Nat) (u u' : Value) (w' : World), w' = (w5.setCell ⟨g, j, none⟩ u).setCell ⟨g, j', none⟩ u' → w'.cell? ⟨wr.heap.size, 0, none⟩ = some (.int .i64 (s : Int)) ∧ w'.cell? ⟨wr.heap.size, 1, none⟩ = some (.int .i64 (wd : Int)) ∧ w'.cell? ⟨wr.heap.size, 2, none⟩ = some (.int .u64 (nm : Int))) := by
        rintro w5 h j j' u u' w' rfl
        refine HK0.out _ ?_
        rw [Below.heap_setCell _ _ _ _ (show wr.heap.size ≠ g by omega), Below.heap_setCell _ _ _ _ (show wr.heap.size ≠ g by omega)]
        exact h.block _ (by rw [← HVs.out]; omega)
      go_region_held3 (fun w' => w'.cell? ⟨wr.heap.size, 0, none⟩ = some (.int .i64 (s : Int)) ∧ w'.cell? ⟨wr.heap.size, 1, none⟩ = some (.int .i64 (wd : Int)) ∧ w'.cell? ⟨wr.heap.size, 2, none⟩ = some (.int .u64 (nm : Int)))
        ((first | exact HK2.out w5 hk1.out _ _ _ _ _ rfl | exact HK.out _ hk1.out | exact HK.out _ (Below.refl _ _).drew))
        (first
          | (go_at_call 81; refine (HP.out _).mono ?_; rintro e w5 ⟨A1, c1', rfl, r1, B1⟩; have hk1 : Hid (Below V0.heap.size V0 w5) := ((Below.refl _ V0).drew).trans B1; have hr1 := Lib.hid r1; clear B1 r1; obtain ⟨q1, q2, q3, q4⟩ := HD0.out w5 (HV.out.trans (hk1.out.mono HV.out.size))))
      all_goals (
        have hb5 : Below wr.heap.size wr w5 := HV.out.trans (hk1.out.mono HV.out.size)
        have row5 := HD.out w5 hb5
        have hwl : (wd : Int) = (L.length : Int) := by rw [HCl.out]
        have HRow6 : Hid (((w5.setCell ⟨g, s * 2, none⟩ (.int .i64 (wd : Int))).setCell ⟨g, s * 2 + 1, none⟩ (.slice A1 (pack L).length c1')).ownsRow w2.heap.size 35 2 (.slice (some ⟨g, 0, none⟩) n n) n ((bs.set s (L, A1, c1')).flatMap encB)) := by
          show World.ownsRow _ _ _ _ _ _ _
          rw [encBs_set bs s (by omega), ← hwl]
          exact own_put (own_put row5 _ _) _ _
        have HRd6 : Hid (∀ x ∈ bs.set s (L, A1, c1'), Rd ((w5.setCell ⟨g, s * 2, none⟩ (.int .i64 (wd : Int))).setCell ⟨g, s * 2 + 1, none⟩ (.slice A1 (pack L).length c1')) ((w5.setCell ⟨g, s * 2, none⟩ (.int .i64 (wd : Int))).setCell ⟨g, s * 2 + 1, none⟩ (.slice A1 (pack L).length c1')).heap.size x.2.1 (pack x.1)) := by
          intro x hx
          have key : ∀ A' by', Rd w5 w5.heap.size A' by' → Rd ((w5.setCell ⟨g, s * 2, none⟩ (.int .i64 (wd : Int))).setCell ⟨g, s * 2 + 1, none⟩ (.slice A1 (pack L).length c1')) ((w5.setCell ⟨g, s * 2, none⟩ (.int .i64 (wd : Int))).setCell ⟨g, s * 2 + 1, none⟩ (.slice A1 (pack L).length c1')).heap.size A' by' := by
            intro A' by' h
            have h2 := rd_row row5 h ((w5.setCell ⟨g, s * 2, none⟩ (.int .i64 (wd : Int))).setCell ⟨g, s * 2 + 1, none⟩ (.slice A1 (pack L).length c1')) (fun b hb => by rw [Below.heap_setCell _ _ _ _ hb, Below.heap_setCell _ _ _ _ hb])
            simpa [World.setCell] using h2
          rcases List.mem_or_eq_of_mem_set hx with hx | rfl
          · exact key _ _ ((HRd.out x hx).below hb5 hb5.size)
          · exact key _ _ hr1.out
        have HB6 : Hid (Below w2.heap.size w2 ((w5.setCell ⟨g, s * 2, none⟩ (.int .i64 (wd : Int))).setCell ⟨g, s * 2 + 1, none⟩ (.slice A1 (pack L).length c1'))) := ((HBel.out.trans (hb5.mono HBel.out.size)).setCell hgb _).setCell hgb _
        have HBs6 : Hid ((bs.set s (L, A1, c1')).map (fun x : Bx => x.1) = (List.range l.length).map (codOf ((words l).take (i + 1)))) := by
          show _ = _
          rw [List.map_set, HBs.out]
          apply List.ext_getElem?
          intro t
          rw [List.getElem?_set, List.length_map, List.length_range, List.getElem?_map, List.getElem?_map]
          by_cases ht : t < l.length
          · rw [List.getElem?_range ht, Option.map_some, Option.map_some, HSn.out t]
            by_cases hst : s = t
            · rw [if_pos hst, if_pos (by omega), if_pos hst.symm]
            · rw [if_neg hst, if_neg (fun e => hst e.symm)]
          · rw [List.getElem?_eq_none (by simp; omega)]
            simp
            omega
        clear hwl hb5 row5 hr1 hk1 q1 q2 q3 q4 HK HK0 HK2 HD HD0
        go_wp2
        go_roundw
        case rel => exact ⟨i + 1, bs.set s (L, A1, c1'), by rw [HM.out]; omega, by go_num, HBs6.out, by rw [HN.out]; exact HRow6.out, HRd6.out, HB6.out⟩
        case measure => simp [intOf]; omega)
    · have he : (words l).take i = words l := List.take_of_length_le (by rw [HM.out]; omega)
      rw [he] at hbs
      have HBs : Hid (bs.map (fun x : Bx => x.1) = codes l) := hbs
      have HRr := Lib.hid (own_rdr hrow hrd)
      have HBel := Lib.hid hbel
      have HLn : Hid ((codes l).length = n) := by show _ = _; rw [codes_length, HN.out]
      clear hrow hrd hbel hbs he
      go_wp2
      go_ret2
      exact ⟨_, n, bs, by rw [HLn.out]; rfl, HBs.out, HRr.out, HB.out.trans (HBel.out.mono HB.out.size)⟩
end

section
set_option maxRecDepth 100000
set_option linter.unusedVariables false
open Go.RowKit Go.Shelf Go.Sort

/-- Two numbers and an error come back. -/
def SgP (w : World) (s to : Nat) (err : Int) (e : Ending) (w' : World) : Prop := e = .returned (.tuple #[.int .i64 (s : Int), .int .i64 (to : Int), .int .i64 err]) ∧ Below w.heap.size w w'
/-- The words are none. -/
def WordsNo (A1 : Option Addr) (n1 c1 : Nat) (w : World) (e0 : Int) : Prop := ∀ V, Below w.heap.size w V → Calls Tryz.prog 93 #[.slice A1 n1 c1] V fun e w' => e = .returned (.tuple #[.slice none 0 0, .int .i64 e0]) ∧ Below V.heap.size V w'
set_option maxHeartbeats 1000000 in
theorem sign_w (A1 : Option Addr) (n1 c1 : Nat) (len : Int) (A2 : Option Addr) (N c2 : Nat) (p : Int) (w : World) (e0 : Int) (h0 : e0 ≠ 0) (hW : WordsNo A1 n1 c1 w e0) :
    Calls Tryz.prog 52 #[.slice A1 n1 c1, .agg #[.int .i64 len, .slice A2 N c2], .int .i64 p] w (SgP w 0 0 e0) := by
  have HW := Lib.hid hW; clear hW
  have t0 : (e0 == 0) = false := by simpa using h0
  clear h0
  go_enter Tryz.func52, Tryz.ntmps52
  go_wp2_with fail
  generalize hV : w.alloc (.cells #[.int .i64 len, .slice A2 N c2] 35) = V0
  have HV : Hid (Below w.heap.size w V0) := hV ▸ one_below _ _
  have HVs : Hid (w.heap.size + 1 = V0.heap.size) := by show _ = _; rw [← hV, World.size_alloc]
  have HK : Hid (∀ w' : World, Below V0.heap.size V0 w' → w'.cell? ⟨w.heap.size, 0, none⟩ = some (.int .i64 len) ∧ w'.cell? ⟨w.heap.size, 1, none⟩ = some (.slice A2 N c2)) := by
    subst hV
    exact fun w' h => box_at (by rwa [World.size_alloc] at h)
  clear hV
  refine (HW.out V0 HV.out).mono ?_
  rintro e w2 ⟨rfl, b2⟩
  have B1 := Lib.hid b2; clear b2
  go_wp2
  go_ret3
  exact ⟨rfl, HV.out.trans (B1.out.mono HV.out.size)⟩

set_option maxHeartbeats 4000000 in
theorem sign_r (l : List Nat) (n1 : Nat) (hn : l.length = n1) (h64 : n1 ≤ 64) (h24 : ∀ x ∈ l, x ≤ 24) (hr : tkn l ≤ 16777216) (A1 : Option Addr) (c1 : Nat) (w : World) (hRl : RdV w w.heap.size A1 (zc (ns l)))
    (len : Int) (A2 : Option Addr) (c2 : Nat) (bs : List Nat) (hb : ∀ b ∈ bs, b < 256) (hA : Rd w w.heap.size A2 bs) (p ec e0 : Int) (hc : chk len bs = ec) (he : rgE ec [decide (0 ≤ p), decide (p ≤ len)] = e0) (h0 : e0 ≠ 0) :
    Calls Tryz.prog 52 #[.slice A1 n1 c1, .agg #[.int .i64 len, .slice A2 bs.length c2], .int .i64 p] w (SgP w 0 0 e0) := by
  have HW : Hid (∀ V, Below w.heap.size w V → Calls Tryz.prog 93 #[.slice A1 n1 c1] V fun e w' => ∃ (Av : Option Addr) (cv : Nat), e = .returned (.tuple #[.slice Av (words l).length cv, .int .i64 0]) ∧ Below V.heap.size V w') := fun V hV =>
    (wordsOf_ok l n1 hn h64 h24 hr A1 c1 V (hRl.on hV)).mono (by
      rintro e w' ⟨v, he, ho, hbel⟩
      obtain ⟨Av, cv, rfl, _⟩ := own_rdw rfl ho
      exact ⟨Av, cv, he, hbel⟩)
  have HC : Hid (∀ V, Rd V V.heap.size A2 bs → Calls Tryz.prog 59 #[.agg #[.int .i64 len, .slice A2 bs.length c2]] V fun e w' => e = .returned (.int .i64 ec) ∧ Below V.heap.size V w') := fun V hV => by rw [← hc]; exact check_any len A2 c2 bs V hb hV
  have HA := Lib.hid hA
  have HE : Hid (rgE ec [decide (0 ≤ p), decide (p ≤ len)] = e0) := he
  have HR := Lib.hid (range2 ec (decide (0 ≤ p)) (decide (p ≤ len)) e0 he)
  clear he hA hc hRl hb hr h24 hn
  have t0 : (e0 == 0) = false := by simpa using h0
  clear h0
  generalize (words l).length = m at *
  generalize bs.length = N at *
  go_enter Tryz.func52, Tryz.ntmps52
  go_wp2_with fail
  generalize hV : w.alloc (.cells #[.int .i64 len, .slice A2 N c2] 35) = V0
  have HV : Hid (Below w.heap.size w V0) := hV ▸ one_below _ _
  have HVs : Hid (w.heap.size + 1 = V0.heap.size) := by show _ = _; rw [← hV, World.size_alloc]
  have HK : Hid (∀ w' : World, Below V0.heap.size V0 w' → w'.cell? ⟨w.heap.size, 0, none⟩ = some (.int .i64 len) ∧ w'.cell? ⟨w.heap.size, 1, none⟩ = some (.slice A2 N c2)) := by
    subst hV
    exact fun w' h => box_at (by rwa [World.size_alloc] at h)
  clear hV
  refine (HW.out V0 HV.out).mono ?_
  rintro e w2 ⟨Av, cv, rfl, b2⟩
  have B1 := Lib.hid b2; clear b2
  go_wp2
  go_region_held3 (fun w' => w'.cell? ⟨w.heap.size, 0, none⟩ = some (.int .i64 len) ∧ w'.cell? ⟨w.heap.size, 1, none⟩ = some (.slice A2 N c2))
    ((refine HK.out _ ?_; first | exact hk2.out | exact hk1.out.trans ((one_below _ _).mono hk1.out.size) | exact hk1.out | exact B1.out.trans (((one_below _ _).drew).mono B1.out.size) | exact B1.out.drew))
    (first
      | (go_at_call 54; have hx := hsl.out; refine (range_any ec [(decide (0 ≤ p)), (decide (p ≤ len))] 2 rfl (by decide) _ _ w5 hx).mono ?_; rintro e w6 ⟨rfl, hw⟩; have hk2 : Hid (Below V0.heap.size V0 w6) := hw ▸ hk1.out; clear hx hw hsl; rw [HE.out])
      | (go_at_call 54; have hx := hk1.out; refine (HR.out w5 _ rfl).mono ?_; rintro e w6 ⟨rfl, B2⟩; have hk2 : Hid (Below V0.heap.size V0 w6) := hx.trans (B2.mono hx.size); clear B2 hx)
      | (go_at_call 59; refine (HC.out w2.drew (HA.out.on (HV.out.trans (B1.out.mono HV.out.size)).drew)).mono ?_; rintro e w5 ⟨rfl, B5⟩; have hk1 : Hid (Below V0.heap.size V0 w5) := B1.out.trans (((Below.refl _ w2).drew).trans B5 |>.mono B1.out.size); clear B5)
      | (go_at_call 59; refine (HC.out _ (HA.out.on ((HV.out.trans (B1.out.mono HV.out.size)).trans ((one_below w2 (.cells #[.bool (decide (0 ≤ p)), .bool (decide (p ≤ len))] 4)).drew.mono (HV.out.trans (B1.out.mono HV.out.size)).size)))).mono ?_; rintro e w5 ⟨rfl, B5⟩; have hk1 : Hid (Below V0.heap.size V0 w5) := B1.out.trans ((((one_below w2 (.cells #[.bool (decide (0 ≤ p)), .bool (decide (p ≤ len))] 4)).drew).trans (B5.mono (by simp))).mono B1.out.size); have hsl : Hid (RdV w5 w5.heap.size (some ⟨w2.heap.size, 0, none⟩) (cc [(decide (0 ≤ p)), (decide (p ≤ len))])) := (rdv_drew (rdv_cc w2 [(decide (0 ≤ p)), (decide (p ≤ len))])).on B5; clear B5))
  all_goals (
    have HB2 : Hid (Below w.heap.size w w6) := HV.out.trans (hk2.out.mono HV.out.size)
    clear HK hk2 hk1
    go_wp2
    go_ret3
    exact ⟨rfl, HB2.out⟩)

/-- At each round's head: none of the first i words stands there. -/
def SgRel (W : List Wn) (left : List Bool) (w2 : World) (p : Value) (wr : World) : Prop :=
  ∃ i : Nat, i ≤ W.length ∧ p = .int .i64 (i : Int) ∧ sgn left (W.drop i) = sgn left W ∧ Below w2.heap.size w2 wr
theorem sgn_unf (left : List Bool) (x : Wn) (t : List Wn) (sh : Nat) (h : min x.2.1 left.length = sh) : sgn left (x :: t) = if num (left.take sh) = x.2.2 / 2 ^ (x.2.1 - sh) then (if sh < x.2.1 then (0, 0, 7) else (x.1, x.2.1, 0)) else sgn left t := by
  subst h; rfl
/-- What Sign answers, at place p. -/
def sgA (p : Nat) (r : Nat × Nat × Int) : Nat × Nat × Int := if r.2.2 = 0 then (r.1, p + r.2.1, 0) else (0, 0, r.2.2)

set_option maxHeartbeats 4000000 in
theorem sign_ok (l : List Nat) (n1 : Nat) (hn : l.length = n1) (h64 : n1 ≤ 64) (h24 : ∀ x ∈ l, x ≤ 24) (hr : tkn l ≤ 16777216) (A1 : Option Addr) (c1 : Nat) (w : World) (hRl : RdV w w.heap.size A1 (zc (ns l)))
    (lb : List Bool) (hlb : lb.length ≤ 8192) (A2 : Option Addr) (c2 : Nat) (hA : Rd w w.heap.size A2 (pack lb)) (p : Nat) (hp : p ≤ lb.length) (s to : Nat) (e0 : Int) (hres : sgA p (sgn (lb.drop p) (words l)) = (s, to, e0)) :
    Calls Tryz.prog 52 #[.slice A1 n1 c1, .agg #[.int .i64 (lb.length : Int), .slice A2 (pack lb).length c2], .int .i64 (p : Int)] w (SgP w s to e0) := by
  have HW : Hid (∀ V, Below w.heap.size w V → Calls Tryz.prog 93 #[.slice A1 n1 c1] V fun e w' => ∃ (Av : Option Addr) (cv : Nat), e = .returned (.tuple #[.slice Av (words l).length cv, .int .i64 0]) ∧ RdW w' w'.heap.size Av (words l) ∧ Below V.heap.size V w') := fun V hV =>
    (wordsOf_ok l n1 hn h64 h24 hr A1 c1 V (hRl.on hV)).mono (by
      rintro e w' ⟨v, he, ho, hbel⟩
      obtain ⟨Av, cv, rfl, hw⟩ := own_rdw rfl ho
      exact ⟨Av, cv, he, hw, hbel⟩)
  have HC : Hid (∀ V, Rd V V.heap.size A2 (pack lb) → Calls Tryz.prog 59 #[.agg #[.int .i64 (lb.length : Int), .slice A2 (pack lb).length c2]] V fun e w' => e = .returned (.int .i64 0) ∧ Below V.heap.size V w') := fun V hV => check_l lb hlb A2 c2 V hV
  have HG : Hid (∀ (V : World) (k : Nat), k ≤ 24 → p + k ≤ lb.length → Rd V V.heap.size A2 (pack lb) → Calls Tryz.prog 82 #[.agg #[.int .i64 (lb.length : Int), .slice A2 (pack lb).length c2], .int .i64 (p : Int), .int .i64 (k : Int)] V fun e w' => e = .returned (.tuple #[.int .u64 (num ((lb.drop p).take k) : Int), .int .i64 0]) ∧ Below V.heap.size V w') := fun V k hk hpk hV => get_l lb hlb A2 c2 p k _ (by omega) hpk rfl V hV
  have HA := Lib.hid hA
  have HE : Hid (rgE 0 [true, true] = 0) := by show _ = _; decide
  have HR := Lib.hid (range2 0 true true 0 (by decide))
  have HWd := Lib.hid (words_ok l h24)
  have HL : Hid ((words l).length ≤ 64) := by show _ ≤ _; rw [words_len]; have := uws_len l 0; omega
  have HRes := Lib.hid hres
  have HX : Hid (∀ i, i < (words l).length → 1 ≤ (wAt (words l) i).2.1 ∧ (wAt (words l) i).2.1 ≤ 24 ∧ (wAt (words l) i).2.2 < 16777216) := by
    intro i hi
    have hm := wAt_mem _ i hi
    have h1 := words_lt HWd.out hr hm
    have h2 := (HWd.out.mem _ hm).2
    have h3 : 2 ^ (wAt (words l) i).2.1 ≤ 2 ^ 24 := Nat.pow_le_pow_right (by omega) h2.2
    exact ⟨h2.1, h2.2, by omega⟩
  have hdl : (lb.drop p).length = lb.length - p := List.length_drop
  clear hA hRl hr h24 hn hres
  have hm64 : (words l).length ≤ 64 := HL.out
  generalize words l = W at *
  generalize hmm : W.length = m at *
  have HM := Lib.hid hmm; clear hmm
  generalize hlf : lb.drop p = left at *
  have HLf := Lib.hid hlf; clear hlf
  generalize pack lb = bs at *
  generalize bs.length = N at *
  generalize hln : lb.length = ln at *
  clear hln
  have t1 : decide ((0 : Int) ≤ (p : Int)) = true := by simp
  have t2 : decide ((p : Int) ≤ (ln : Int)) = true := by simp; omega
  go_enter Tryz.func52, Tryz.ntmps52
  go_wp2_with fail
  generalize hV : w.alloc (.cells #[.int .i64 (ln : Int), .slice A2 N c2] 35) = V0
  have HV : Hid (Below w.heap.size w V0) := hV ▸ one_below _ _
  have HVs : Hid (w.heap.size + 1 = V0.heap.size) := by show _ = _; rw [← hV, World.size_alloc]
  have HK : Hid (∀ w' : World, Below V0.heap.size V0 w' → w'.cell? ⟨w.heap.size, 0, none⟩ = some (.int .i64 (ln : Int)) ∧ w'.cell? ⟨w.heap.size, 1, none⟩ = some (.slice A2 N c2)) := by
    subst hV
    exact fun w' h => box_at (by rwa [World.size_alloc] at h)
  clear hV
  refine (HW.out V0 HV.out).mono ?_
  rintro e w2 ⟨Av, cv, rfl, hwW, b2⟩
  have B1 := Lib.hid b2; have HRW := Lib.hid hwW; clear b2 hwW
  have HVw : Hid (Below w.heap.size w w2) := HV.out.trans (B1.out.mono HV.out.size)
  go_wp2
  go_region_held3 (fun w' => w'.cell? ⟨w.heap.size, 0, none⟩ = some (.int .i64 (ln : Int)) ∧ w'.cell? ⟨w.heap.size, 1, none⟩ = some (.slice A2 N c2))
    ((refine HK.out _ ?_; first | exact B1.out.trans (hk2.out.mono B1.out.size) | exact (B1.out.trans (hk1.out.mono B1.out.size)).trans ((one_below _ _).mono (B1.out.trans (hk1.out.mono B1.out.size)).size) | exact B1.out.trans (hk1.out.mono B1.out.size) | exact B1.out.trans (((one_below _ _).drew).mono B1.out.size) | exact B1.out.drew))
    (first
      | (go_at_call 54; have hx := hsl.out; refine (range_any 0 [true, true] 2 rfl (by decide) _ _ w5 hx).mono ?_; rintro e w6 ⟨rfl, hw⟩; have hk2 : Hid (Below w2.heap.size w2 w6) := hw ▸ hk1.out; clear hx hw hsl; rw [HE.out])
      | (go_at_call 54; have hx := hk1.out; refine (HR.out w5 _ rfl).mono ?_; rintro e w6 ⟨rfl, B2⟩; have hk2 : Hid (Below w2.heap.size w2 w6) := hx.trans (B2.mono hx.size); clear B2 hx)
      | (go_at_call 59; refine (HC.out w2.drew (HA.out.on HVw.out.drew)).mono ?_; rintro e w5 ⟨rfl, B5⟩; have hk1 : Hid (Below w2.heap.size w2 w5) := ((Below.refl _ w2).drew).trans B5; clear B5)
      | (go_at_call 59; refine (HC.out _ (HA.out.on (HVw.out.trans ((one_below w2 (.cells #[.bool true, .bool true] 4)).drew.mono HVw.out.size)))).mono ?_; rintro e w5 ⟨rfl, B5⟩; have hk1 : Hid (Below w2.heap.size w2 w5) := ((one_below w2 (.cells #[.bool true, .bool true] 4)).drew).trans (B5.mono (by simp)); have hsl : Hid (RdV w5 w5.heap.size (some ⟨w2.heap.size, 0, none⟩) (cc [true, true])) := (rdv_drew (rdv_cc w2 [true, true])).on B5; clear B5))
  all_goals (
    have HB6 := Lib.hid hk2.out
    clear hk2 hk1
    go_wp2
    go_loopw [40] (fun p wr => SgRel W left w2 p wr) (fun p _ => m - (intOf p).toNat)
    case atStart => exact ⟨0, Nat.zero_le _, rfl, rfl, HB6.out⟩
    case round =>
      obtain ⟨i, hi, rfl, hsg, hbel⟩ := hrel
      rw [HM.out] at hi
      by_cases hlt : i < m
      · have hiw : i < W.length := by rw [HM.out]; exact hlt
        have hxi : W[i]? = some (wAt W i) := by unfold wAt; rw [List.getElem?_eq_getElem hiw]; rfl
        obtain ⟨b, off, rfl, hb, k0, k1, k2⟩ := (HRW.out.below hbel hbel.size).at_ hxi
        obtain ⟨hx1, hx2, hx3⟩ := HX.out i hlt
        have hdr : W.drop i = wAt W i :: W.drop (i + 1) := by
          rw [List.drop_eq_getElem_cons hiw]; unfold wAt; rw [List.getElem?_eq_getElem hiw]; rfl
        rw [hdr] at hsg
        have HBw : Hid (Below V0.heap.size V0 wr) := B1.out.trans (hbel.mono B1.out.size)
        obtain ⟨p1, q1⟩ := HK.out wr HBw.out
        have hbw : w.heap.size < wr.heap.size := by have := HBw.out.size; rw [← HVs.out] at this; omega
        have HBel := Lib.hid hbel
        have hwl : w.heap.size ≤ wr.heap.size := by omega
        generalize wAt W i = x at *
        obtain ⟨sy, wd, nm⟩ := x
        simp only at k0 k1 k2 hx1 hx2 hx3
        have key : ∀ sh : Nat, min wd left.length = sh → sh ≤ wd ∧ sh ≤ left.length := fun sh h => by omega
        obtain ⟨sh, hsh⟩ : ∃ sh, min wd left.length = sh := ⟨_, rfl⟩
        obtain ⟨hs1, hs2⟩ := key sh hsh
        rw [sgn_unf left (sy, wd, nm) _ sh hsh] at hsg
        have hsh2 : min (wd : Int) ((ln : Int) - (p : Int)) = (sh : Int) := by rw [hdl] at hsh; omega
        have HGk := Lib.hid (fun V => HG.out V sh (by omega) (by rw [hdl] at hs2; omega))
        simp only at hsg
        obtain ⟨st, hst⟩ : ∃ st, num (left.take sh) = st := ⟨_, rfl⟩
        obtain ⟨q, hq⟩ : ∃ q, nm / 2 ^ (wd - sh) = q := ⟨_, rfl⟩
        rw [hst, hq] at hsg
        rw [hst] at HGk
        have hq2 : (nm : Int) / 2 ^ (wd - sh) = (q : Int) := by rw [← hq]; simp
        have hq3 : (nm : Int) / 2 ^ ((wd : Int) - (sh : Int)).toNat = (q : Int) := by rw [show ((wd : Int) - (sh : Int)).toNat = wd - sh by omega]; exact hq2
        have HSg := Lib.hid hsg
        clear hsg key hdr hxi hsh hq hst hbel
        go_wp2_with fail
        refine (HGk.out _ (HA.out.on ((HVw.out.trans (HBel.out.mono HVw.out.size)).trans ((one_below wr _).mono hwl)))).mono ?_
        rintro e w7 ⟨rfl, B7⟩
        have n0 := World.alloc_heap_new wr (.cells #[.int .i64 (sy : Int), .int .i64 (wd : Int), .int .u64 (nm : Int)] 140)
        have k0' := (B7.block wr.heap.size (by simp)).trans n0
        have r0 : w7.cell? ⟨wr.heap.size, 0, none⟩ = some (.int .i64 (sy : Int)) := (cell_at k0' _).trans rfl
        have r1 : w7.cell? ⟨wr.heap.size, 1, none⟩ = some (.int .i64 (wd : Int)) := (cell_at k0' _).trans rfl
        have r2 : w7.cell? ⟨wr.heap.size, 2, none⟩ = some (.int .u64 (nm : Int)) := (cell_at k0' _).trans rfl
        have HB7 : Hid (Below w2.heap.size w2 w7) := HBel.out.trans (((one_below wr _).trans (B7.mono (by simp))).mono HBel.out.size)
        clear n0 k0' B7 k0 k1 k2 p1 q1 HGk
        by_cases hc : st = q
        · rw [if_pos hc] at HSg
          have tq : ((st : Int) == (q : Int)) = true := by simp; omega
          by_cases hd : sh < wd
          · rw [if_pos hd] at HSg
            have hres := HRes.out
            rw [← HSg.out] at hres
            have HF : Hid ((0, 0, (7 : Int)) = (s, to, e0)) := hres
            clear hres hc
            go_wp2
            go_ret3
            obtain ⟨rfl, rfl, rfl⟩ : 0 = s ∧ 0 = to ∧ (7 : Int) = e0 := by have := HF.out; simp only [Prod.mk.injEq] at this; exact this
            exact ⟨rfl, HVw.out.trans (HB7.out.mono HVw.out.size)⟩
          · rw [if_neg hd] at HSg
            have hres := HRes.out
            rw [← HSg.out] at hres
            have HF : Hid ((sy, p + wd, (0 : Int)) = (s, to, e0)) := hres
            clear hres hc
            obtain rfl : sh = wd := by omega
            obtain rfl : nm = q := by
              rw [Nat.sub_self, Int.pow_zero, Int.ediv_one] at hq2
              omega
            clear hq2 hq3
            go_wp2
            go_quiet (fail)
            go_wp2
            go_ret3
            obtain ⟨rfl, rfl, rfl⟩ : sy = s ∧ p + sh = to ∧ (0 : Int) = e0 := by have := HF.out; simp only [Prod.mk.injEq] at this; exact this
            have hbz := HVw.out.trans (HB7.out.mono HVw.out.size)
            exact ⟨by simp, ⟨hbz.os, hbz.tape, hbz.output, hbz.size, hbz.block⟩⟩
        · rw [if_neg hc] at HSg
          have tq : ((st : Int) == (q : Int)) = false := by simp; omega
          clear hc
          go_wp2
          go_roundw
          case rel => exact ⟨i + 1, by rw [HM.out]; omega, by go_num, HSg.out, HB7.out⟩
          case measure => simp [intOf]; omega
      · have hd : W.drop i = [] := List.drop_eq_nil_of_le (by rw [HM.out]; omega)
        rw [hd] at hsg
        have hres := HRes.out
        rw [← hsg] at hres
        have HF : Hid ((0, 0, (5 : Int)) = (s, to, e0)) := hres
        have HB7 := Lib.hid hbel
        clear hres hsg hd hbel
        go_wp2
        go_ret3
        obtain ⟨rfl, rfl, rfl⟩ : 0 = s ∧ 0 = to ∧ (5 : Int) = e0 := by have := HF.out; simp only [Prod.mk.injEq] at this; exact this
        exact ⟨rfl, HVw.out.trans (HB7.out.mono HVw.out.size)⟩)
end

section
set_option linter.unusedVariables false

/-- Bytes in order. -/
def cmpB : List Nat → List Nat → Int
  | [], [] => 0
  | [], _ :: _ => -1
  | _ :: _, [] => 1
  | x :: a, y :: b => if x < y then -1 else if y < x then 1 else cmpB a b
/-- The number of bytes, with room for n. -/
def vB : Nat → List Nat → Nat
  | _, [] => 0
  | n, x :: a => x * 256 ^ (n - 1) + vB (n - 1) a
theorem vB_lt : ∀ (a : List Nat) (n : Nat), (∀ x ∈ a, x < 256) → a.length ≤ n → vB n a < 256 ^ n
  | [], n, _, _ => Nat.pow_pos (by omega)
  | x :: a, n, h, hl => by
    obtain ⟨m, rfl⟩ : ∃ m, n = m + 1 := ⟨n - 1, by simp at hl; omega⟩
    have ih := vB_lt a m (fun y hy => h y (List.mem_cons_of_mem _ hy)) (by simpa using hl)
    have hx := h x List.mem_cons_self
    unfold vB
    rw [Nat.add_sub_cancel, Nat.pow_succ]
    have : x * 256 ^ m ≤ 255 * 256 ^ m := Nat.mul_le_mul_right _ (by omega)
    omega
theorem cmpB_key : ∀ (a b : List Nat) (n : Nat), (∀ x ∈ a, x < 256) → (∀ x ∈ b, x < 256) → a.length ≤ n → b.length ≤ n →
    (cmpB a b < 0 ↔ vB n a < vB n b ∨ (vB n a = vB n b ∧ a.length < b.length)) ∧ (cmpB a b = 0 ↔ a = b)
  | [], [], n, _, _, _, _ => by simp [cmpB, vB]
  | [], y :: b, n, _, _, _, _ => by
    simp [cmpB, vB]
    omega
  | x :: a, [], n, _, _, _, _ => by simp [cmpB, vB]
  | x :: a, y :: b, n, ha, hb, la, lb => by
    obtain ⟨m, rfl⟩ : ∃ m, n = m + 1 := ⟨n - 1, by simp at la; omega⟩
    have ha' := fun z hz => ha z (List.mem_cons_of_mem x hz)
    have hb' := fun z hz => hb z (List.mem_cons_of_mem y hz)
    have la' : a.length ≤ m := by simpa using la
    have lb' : b.length ≤ m := by simpa using lb
    obtain ⟨i1, i2⟩ := cmpB_key a b m ha' hb' la' lb'
    have v1 := vB_lt a m ha' la'
    have v2 := vB_lt b m hb' lb'
    unfold cmpB vB
    rw [Nat.add_sub_cancel]
    generalize 256 ^ m = M at *
    rcases Nat.lt_trichotomy x y with h | h | h
    · have hm : (x + 1) * M ≤ y * M := Nat.mul_le_mul_right M h
      rw [Nat.add_mul, Nat.one_mul] at hm
      rw [if_pos h]
      refine ⟨by constructor <;> intro _ <;> omega, by constructor <;> intro h' <;> simp at h' <;> omega⟩
    · subst h
      rw [if_neg (by omega), if_neg (by omega), i1, i2]
      refine ⟨by simp, by simp⟩
    · have hm : (y + 1) * M ≤ x * M := Nat.mul_le_mul_right M h
      rw [Nat.add_mul, Nat.one_mul] at hm
      rw [if_neg (by omega), if_pos h]
      refine ⟨by constructor <;> intro h' <;> omega, by constructor <;> intro h' <;> simp at h' <;> omega⟩
theorem cmpB_nonneg : ∀ a b : List Nat, cmpB a b = -1 ∨ cmpB a b = 0 ∨ cmpB a b = 1
  | [], [] => by simp [cmpB]
  | [], _ :: _ => by simp [cmpB]
  | _ :: _, [] => by simp [cmpB]
  | x :: a, y :: b => by
    unfold cmpB
    split
    · exact .inl rfl
    · split
      · exact .inr (.inr rfl)
      · exact cmpB_nonneg a b

/-! ### Bytes of bits -/
theorem bt_app8 (c l : List Bool) (h : c.length = 8) (i : Nat) : bt (c ++ l) (8 + i) = bt l i := by
  rw [bt_right _ _ _ (by omega), h]; congr 1; omega
theorem byteAt_app8 (c l : List Bool) (h : c.length = 8) (k : Nat) : byteAt (c ++ l) (k + 1) = byteAt l k := by
  have e : ∀ j, bt (c ++ l) (8 * (k + 1) + j) = bt l (8 * k + j) := fun j => by
    rw [show 8 * (k + 1) + j = 8 + (8 * k + j) by omega]; exact bt_app8 c l h _
  have e0 := e 0
  simp only [Nat.add_zero] at e0
  unfold byteAt
  rw [e0, e 1, e 2, e 3, e 4, e 5, e 6, e 7]
theorem byte_num (c l : List Bool) (h : c.length = 8) : byteAt (c ++ l) 0 = num c := by
  match c, h with
  | [b0, b1, b2, b3, b4, b5, b6, b7], _ =>
    unfold byteAt
    simp [bt, num]
    omega
theorem pack_app8 (c l : List Bool) (h : c.length = 8) : pack (c ++ l) = num c :: pack l := by
  apply list_ext_getD
  · simp only [pack_length, List.length_append, List.length_cons, h]; omega
  · intro k
    rw [pack_get]
    cases k with
    | zero => rw [byte_num c l h]; rfl
    | succ k => rw [byteAt_app8 c l h, List.getElem?_cons_succ, pack_get]
theorem bt_zeros (l : List Bool) (j i : Nat) : bt (l ++ List.replicate j false) i = bt l i := by
  rcases Nat.lt_or_ge i l.length with h | h
  · rw [bt_left _ _ _ h]
  · rw [bt_right _ _ _ h, bt_beyond l i h]
    unfold bt
    rw [List.getElem?_replicate]
    split <;> rfl
theorem pack_zeros (l : List Bool) (j : Nat) (h : (l.length + j + 7) / 8 = (l.length + 7) / 8) : pack (l ++ List.replicate j false) = pack l := by
  apply list_ext_getD
  · simp only [pack_length, List.length_append, List.length_replicate]; exact h
  · intro k
    rw [pack_get, pack_get]
    unfold byteAt
    simp only [bt_zeros]
theorem num_zeros (j : Nat) : num (List.replicate j false) = 0 := by
  induction j with
  | zero => rfl
  | succ j ih => rw [List.replicate_succ']; rw [num_snoc, ih]; rfl
theorem vB_full : ∀ (m : Nat) (y : List Bool) (n : Nat), y.length = 8 * m → m ≤ n → vB n (pack y) = num y * 2 ^ (8 * (n - m))
  | 0, y, n, h, _ => by
    have : y = [] := List.eq_nil_of_length_eq_zero (by omega)
    subst this
    simp [pack_nil, vB, num]
  | m + 1, y, n, h, hn => by
    have e : y = y.take 8 ++ y.drop 8 := (List.take_append_drop 8 y).symm
    have hc : (y.take 8).length = 8 := by simp; omega
    have hd : (y.drop 8).length = 8 * m := by simp; omega
    have ih := vB_full m (y.drop 8) (n - 1) hd (by omega)
    rw [e, pack_app8 _ _ hc, num_app, hd]
    unfold vB
    rw [ih, Nat.add_mul, Nat.mul_assoc, ← Nat.pow_add, show (256 : Nat) = 2 ^ 8 from rfl, ← Nat.pow_mul, show 8 * m + 8 * (n - (m + 1)) = 8 * (n - 1) by omega, show n - 1 - m = n - (m + 1) by omega]
/-- Bits, with noughts behind them, as a number. -/
def zv (l : List Bool) : Nat := num l * 2 ^ (8192 - l.length)
theorem vB_pack (l : List Bool) (h : l.length ≤ 8192) : vB 1024 (pack l) = zv l := by
  have hj : (l.length + (8 * ((l.length + 7) / 8) - l.length) + 7) / 8 = (l.length + 7) / 8 := by omega
  rw [← pack_zeros l _ hj, vB_full ((l.length + 7) / 8) _ 1024 (by simp; omega) (by omega), num_app, num_zeros, List.length_replicate, Nat.add_zero, Nat.mul_assoc, ← Nat.pow_add]
  unfold zv
  congr 2
  omega
/-- Bits in order: what is asked of two. -/
def cmpL (x y : List Bool) : Int := if cmpB (pack x) (pack y) ≠ 0 then cmpB (pack x) (pack y) else if x.length < y.length then -1 else if y.length < x.length then 1 else 0
def key (l : List Bool) : Nat := zv l * 8193 + l.length
theorem cmpL_lt (x y : List Bool) (hx : x.length ≤ 8192) (hy : y.length ≤ 8192) : cmpL x y < 0 ↔ key x < key y := by
  have lx := pack_length x
  have ly := pack_length y
  obtain ⟨h1, h2⟩ := cmpB_key (pack x) (pack y) 1024 (pack_lt x) (pack_lt y) (by omega) (by omega)
  rw [vB_pack x hx, vB_pack y hy, lx, ly] at h1
  unfold cmpL key
  by_cases h0 : cmpB (pack x) (pack y) = 0
  · have e := h2.1 h0
    have ez : zv x = zv y := by rw [← vB_pack x hx, ← vB_pack y hy, e]
    rw [if_neg (by omega), ez]
    by_cases hl : x.length < y.length
    · rw [if_pos hl]; omega
    · rw [if_neg hl]
      split <;> omega
  · rw [if_pos h0, h1]
    have ne : ¬ (zv x = zv y ∧ (x.length + 7) / 8 = (y.length + 7) / 8) := by
      rintro ⟨e1, e2⟩
      have n1 : ¬ cmpB (pack x) (pack y) < 0 := fun h => by have := h1.1 h; omega
      obtain ⟨k1, k2⟩ := cmpB_key (pack y) (pack x) 1024 (pack_lt y) (pack_lt x) (by omega) (by omega)
      have v : ∀ (a b : List Nat) (n : Nat), (∀ x ∈ a, x < 256) → (∀ x ∈ b, x < 256) → a.length ≤ n → b.length = a.length → vB n a = vB n b → a = b := by
        intro a
        induction a with
        | nil => intro b n _ _ _ hl _; exact (List.eq_nil_of_length_eq_zero (by simpa using hl)).symm
        | cons p a ih =>
          intro b n ha hb la lb hv
          match b, lb with
          | q :: b, lb =>
            obtain ⟨m, rfl⟩ : ∃ m, n = m + 1 := ⟨n - 1, by simp at la; omega⟩
            have w1 := vB_lt a m (fun z hz => ha z (List.mem_cons_of_mem _ hz)) (by simpa using la)
            have w2 := vB_lt b m (fun z hz => hb z (List.mem_cons_of_mem _ hz)) (by simp at la lb; omega)
            unfold vB at hv
            rw [Nat.add_sub_cancel] at hv
            have hpq : p = q := by
              have d1 := congrArg (· / 256 ^ m) hv
              simp only [Nat.mul_comm _ (256 ^ m)] at d1
              rw [Nat.mul_add_div (Nat.pow_pos (by omega)), Nat.mul_add_div (Nat.pow_pos (by omega)), Nat.div_eq_of_lt w1, Nat.div_eq_of_lt w2] at d1
              omega
            subst hpq
            rw [ih b m (fun z hz => ha z (List.mem_cons_of_mem _ hz)) (fun z hz => hb z (List.mem_cons_of_mem _ hz)) (by simpa using la) (by simpa using lb) (by omega)]
      exact h0 (h2.2 (v _ _ 1024 (pack_lt x) (pack_lt y) (by omega) (by omega) (by rw [vB_pack x hx, vB_pack y hy, e1])))
    constructor
    · rintro (h | ⟨h, h'⟩)
      · have := Nat.mul_le_mul_right 8193 (show zv x + 1 ≤ zv y from h)
        omega
      · rw [h]; omega
    · intro h
      rcases Nat.lt_trichotomy (zv x) (zv y) with k | k | k
      · exact .inl k
      · refine .inr ⟨k, ?_⟩
        rw [k] at h
        have := fun e => ne ⟨k, e⟩
        omega
      · have := Nat.mul_le_mul_right 8193 (show zv y + 1 ≤ zv x from k)
        omega
/-- What stands between two, of which one begins with the other, begins with it. -/
theorem between_pre (x y z : List Bool) (hx : x.length ≤ 8192) (hy : y.length ≤ 8192) (hz : z.length ≤ 8192) (h1 : key x ≤ key y) (h2 : key y ≤ key z) (hp : x <+: z) : x <+: y := by
  obtain ⟨hl, hn⟩ := (prefix_num x z).1 hp
  have zlt := Nat.lt_div_mul_add (a := num z) (Nat.two_pow_pos (z.length - x.length))
  rw [← hn] at zlt
  have z1 : num z < (num x + 1) * 2 ^ (z.length - x.length) := by rw [Nat.add_mul, Nat.one_mul]; exact zlt
  have z2 : zv z < (num x + 1) * 2 ^ (8192 - x.length) := by
    have := Nat.mul_lt_mul_of_pos_right z1 (Nat.two_pow_pos (8192 - z.length))
    rw [Nat.mul_assoc, ← Nat.pow_add, show z.length - x.length + (8192 - z.length) = 8192 - x.length by omega] at this
    exact this
  have k1 : zv x ≤ zv y := by
    rcases Nat.lt_or_ge (zv y) (zv x) with h | h
    · have := Nat.mul_le_mul_right 8193 (show zv y + 1 ≤ zv x from h)
      unfold key at h1
      omega
    · exact h
  have k2 : zv y ≤ zv z := by
    rcases Nat.lt_or_ge (zv z) (zv y) with h | h
    · have := Nat.mul_le_mul_right 8193 (show zv z + 1 ≤ zv y from h)
      unfold key at h2
      omega
    · exact h
  have xe : zv x = num x * 2 ^ (8192 - x.length) := rfl
  rcases Nat.lt_or_ge y.length x.length with hlt | hge
  · exfalso
    have ye : zv y = num y * 2 ^ (x.length - y.length) * 2 ^ (8192 - x.length) := by
      unfold zv
      rw [Nat.mul_assoc, ← Nat.pow_add]
      congr 2; omega
    have e : zv y = zv x := by
      have k3 := Nat.lt_of_le_of_lt k2 z2
      rw [ye, xe] at k1
      rw [ye] at k3
      have a1 := Nat.le_of_mul_le_mul_right k1 (Nat.two_pow_pos _)
      have a2 := Nat.lt_of_mul_lt_mul_right k3
      rw [ye, xe]
      congr 1
      omega
    unfold key at h1
    rw [e] at h1
    omega
  · rw [prefix_num]
    refine ⟨hge, ?_⟩
    have ye : zv y = num y * 2 ^ (8192 - y.length) := rfl
    have e0 : 8192 - x.length = (y.length - x.length) + (8192 - y.length) := by omega
    rw [xe, e0, Nat.pow_add, ← Nat.mul_assoc, ye] at k1
    have a1 := Nat.le_of_mul_le_mul_right k1 (Nat.two_pow_pos _)
    have a2' := Nat.lt_of_le_of_lt k2 z2
    rw [e0, Nat.pow_add, ← Nat.mul_assoc, ye] at a2'
    have a2 := Nat.lt_of_mul_lt_mul_right a2'
    exact (Nat.div_eq_of_lt_le a1 a2).symm
theorem key_inj (x y : List Bool) (hx : x.length ≤ 8192) (hy : y.length ≤ 8192) (h : key x = key y) : x = y := by
  unfold key at h
  have h1 : x.length = y.length := by omega
  have h2 : zv x = zv y := by omega
  unfold zv at h2
  rw [h1] at h2
  exact num_inj h1 (Nat.mul_right_cancel (Nat.two_pow_pos _) h2)
theorem key_pre (x y : List Bool) (hx : x.length ≤ 8192) (hy : y.length ≤ 8192) (h : x <+: y) : key x ≤ key y := by
  obtain ⟨hl, hn⟩ := (prefix_num x y).1 h
  have h1 : num x * 2 ^ (y.length - x.length) ≤ num y := by rw [hn]; exact Nat.div_mul_le_self _ _
  have h2 := Nat.mul_le_mul_right (2 ^ (8192 - y.length)) h1
  rw [Nat.mul_assoc, ← Nat.pow_add, show y.length - x.length + (8192 - y.length) = 8192 - x.length by omega] at h2
  have h3 : zv x ≤ zv y := by unfold zv; exact h2
  have h4 := Nat.mul_le_mul_right 8193 h3
  exact Nat.add_le_add h4 hl

/-- Does one begin with the one ahead? -/
def adj : List Bool → List (List Bool) → Bool
  | _, [] => true
  | b, x :: t => if b ≠ [] ∧ b <+: x then false else adj x t
theorem adj_true : ∀ (t : List (List Bool)) (b : List Bool), b.length ≤ 8192 → (∀ x ∈ t, x.length ≤ 8192) → (b :: t).Pairwise (fun x y => key x ≤ key y) →
    (adj b t = true ↔ ((b :: t).filter (fun x => !x.isEmpty)).Pairwise pf)
  | [], b, _, _, _ => by
    unfold adj
    cases b <;> simp
  | x :: t, b, hb, ht, hs => by
    have h1 := List.pairwise_cons.1 hs
    have hx := ht x List.mem_cons_self
    have ih := adj_true t x hx (fun y hy => ht y (List.mem_cons_of_mem _ hy)) h1.2
    unfold adj
    by_cases hb0 : b = []
    · subst hb0
      rw [if_neg (by simp), ih]
      simp
    · have hf : (b :: x :: t).filter (fun x => !x.isEmpty) = b :: ((x :: t).filter (fun x => !x.isEmpty)) := by
        rw [List.filter_cons_of_pos]
        cases b with
        | nil => exact absurd rfl hb0
        | cons _ _ => rfl
      rw [hf, List.pairwise_cons, ← ih]
      by_cases hp : b <+: x
      · rw [if_pos ⟨hb0, hp⟩]
        simp only [Bool.false_eq_true, false_iff, not_and]
        intro h
        have hx0 : x ≠ [] := by
          rintro rfl
          exact hb0 (List.prefix_nil.1 hp)
        have := h x (by
          rw [List.mem_filter]
          refine ⟨List.mem_cons_self, ?_⟩
          cases x with
          | nil => exact absurd rfl hx0
          | cons _ _ => rfl)
        exact absurd hp this.1
      · rw [if_neg (fun h => hp h.2)]
        constructor
        · intro h
          refine ⟨fun z hz => ?_, h⟩
          have hz' := (List.mem_filter.1 hz)
          have hz0 : z ≠ [] := by rintro rfl; simp at hz'
          have zl := ht z hz'.1
          have kxz : key x ≤ key z := by
            rcases List.mem_cons.1 hz'.1 with rfl | h'
            · exact Nat.le_refl _
            · exact (List.pairwise_cons.1 h1.2).1 z h'
          have kbx := h1.1 x List.mem_cons_self
          have n1 : ¬ b <+: z := fun h => hp (between_pre b x z hb hx zl kbx kxz h)
          refine ⟨n1, fun h => ?_⟩
          have k := key_pre z b zl hb h
          have e := key_inj z b zl hb (by omega)
          exact n1 (e ▸ List.prefix_refl _)
        · exact fun h => h.2
end

section
set_option maxRecDepth 100000
set_option linter.unusedVariables false
open Go.RowKit Go.Shelf Go.Sort

theorem ret_bool {a b : Bool} (h : a = b) : Ending.returned (.bool a) = .returned (.bool b) := by rw [h]
def ints (bs : List Nat) : List Int := bs.map fun (x : Nat) => (x : Int)
theorem ints_length (bs : List Nat) : (ints bs).length = bs.length := by simp [ints]
theorem ints_get (bs : List Nat) (j : Nat) (x : Int) (h : (ints bs)[j]? = some x) : j < bs.length ∧ x = ((bs[j]?.getD 0 : Nat) : Int) := by
  have hj : j < bs.length := by have := (List.getElem?_eq_some_iff.1 h).1; rwa [ints_length] at this
  refine ⟨hj, ?_⟩
  simp [ints, List.getElem?_map, List.getElem?_eq_getElem hj] at h ⊢
  exact h.symm
/-- The model's own reader of bytes. -/
theorem run_bytes {P : Program} {w : World} {B : Nat} {A : Option Addr} {bs : List Nat} (h : Rd w B A bs) (c : Nat) :
    (Extern.Bytes.bytesOf (.slice A bs.length c)).run P w = .ok ⟨(Lib.bytesOf (ints bs)).toArray⟩ w := by
  rcases h with rfl | ⟨b, off, rfl, hb, hc⟩
  · cases A with
    | none => rfl
    | some a => rfl
  · have hl := Lib.run_loadBytesX (P := P) w (ints bs) ⟨b, off, none⟩ .empty (fun j x hj => by
      obtain ⟨hj', rfl⟩ := ints_get bs j x hj
      have e : (⟨b, off, none⟩ : Addr).add j = ⟨b, off + j, none⟩ := by unfold Addr.add; split <;> simp_all
      rw [e]
      exact hc j hj')
    rw [ints_length] at hl
    have he : (⟨ByteArray.empty.data ++ (Lib.bytesOf (ints bs)).toArray⟩ : ByteArray) = ⟨(Lib.bytesOf (ints bs)).toArray⟩ := by
      apply ByteArray.ext
      show (#[] : Array UInt8) ++ (Lib.bytesOf (ints bs)).toArray = (Lib.bytesOf (ints bs)).toArray
      simp
    rw [he] at hl
    exact hl
theorem u8_lt (x y : Nat) (hx : x < 256) (hy : y < 256) : (UInt8.ofNat x < UInt8.ofNat y) ↔ x < y := by
  rw [UInt8.lt_iff_toNat_lt, UInt8.toNat_ofNat', UInt8.toNat_ofNat']
  rw [Nat.mod_eq_of_lt hx, Nat.mod_eq_of_lt hy]
theorem compare_cmpB : ∀ a b : List Nat, (∀ x ∈ a, x < 256) → (∀ x ∈ b, x < 256) → Lib.compareBytes (Lib.bytesOf (ints a)) (Lib.bytesOf (ints b)) = cmpB a b
  | [], [], _, _ => rfl
  | [], _ :: _, _, _ => rfl
  | _ :: _, [], _, _ => rfl
  | x :: a, y :: b, ha, hb => by
    have ih := compare_cmpB a b (fun z hz => ha z (List.mem_cons_of_mem _ hz)) (fun z hz => hb z (List.mem_cons_of_mem _ hz))
    have hx := ha x List.mem_cons_self
    have hy := hb y List.mem_cons_self
    show (if UInt8.ofNat (x : Int).toNat < UInt8.ofNat (y : Int).toNat then (-1 : Int) else if UInt8.ofNat (y : Int).toNat < UInt8.ofNat (x : Int).toNat then 1 else Lib.compareBytes (Lib.bytesOf (ints a)) (Lib.bytesOf (ints b))) = _
    rw [ih]
    simp only [Int.toNat_natCast, u8_lt x y hx hy, u8_lt y x hy hx]
    rfl
theorem bytes_inj : ∀ a b : List Nat, (∀ x ∈ a, x < 256) → (∀ x ∈ b, x < 256) → Lib.bytesOf (ints a) = Lib.bytesOf (ints b) → a = b
  | [], [], _, _, _ => rfl
  | [], _ :: _, _, _, h => by simp [Lib.bytesOf, ints] at h
  | _ :: _, [], _, _, h => by simp [Lib.bytesOf, ints] at h
  | x :: a, y :: b, ha, hb, h => by
    have hx := ha x List.mem_cons_self
    have hy := hb y List.mem_cons_self
    have h' : UInt8.ofNat x = UInt8.ofNat y ∧ Lib.bytesOf (ints a) = Lib.bytesOf (ints b) := by
      simp only [Lib.bytesOf, ints, List.map_cons, List.cons.injEq, Int.toNat_natCast] at h ⊢
      exact h
    have e := congrArg UInt8.toNat h'.1
    rw [UInt8.toNat_ofNat', UInt8.toNat_ofNat', Nat.mod_eq_of_lt hx, Nat.mod_eq_of_lt hy] at e
    rw [e, bytes_inj a b (fun z hz => ha z (List.mem_cons_of_mem _ hz)) (fun z hz => hb z (List.mem_cons_of_mem _ hz)) h'.2]
theorem run_cmp {P : Program} {w : World} {B D : Nat} {X Y : Option Addr} {a b : List Nat} (ha : ∀ x ∈ a, x < 256) (hb : ∀ x ∈ b, x < 256) (hX : Rd w B X a) (hY : Rd w D Y b) (c d : Nat) :
    (Extern.BytealgCompare.compare #[.slice X a.length c, .slice Y b.length d]).run P w = .ok (.int .i64 (cmpB a b)) w := by
  change Sem.run P (do pure (goInt (Extern.BytealgCompare.cmp (← Extern.Bytes.bytesOf (.slice X a.length c)) (← Extern.Bytes.bytesOf (.slice Y b.length d))))) w = _
  simp only [Sem.run_bind, Sem.run_pure, Result.andThen, run_bytes hX c, run_bytes hY d]
  rw [Lib.cmp_eq]
  rw [← compare_cmpB a b ha hb]
  rfl
set_option maxHeartbeats 1000000 in
theorem bcmp_any (a b : List Nat) (n m : Nat) (hn : a.length = n) (hm : b.length = m) (ha : ∀ x ∈ a, x < 256) (hb : ∀ x ∈ b, x < 256) (X Y : Option Addr) (c d : Nat) (w : World) (B D : Nat) (hX : Rd w B X a) (hY : Rd w D Y b) :
    Calls Tryz.prog 98 #[.slice X n c, .slice Y m d] w fun e w' => e = .returned (.int .i64 (cmpB a b)) ∧ w' = w := by
  subst hn hm
  have HC := Lib.hid (run_cmp (P := Tryz.prog) ha hb hX hY c d)
  clear ha hb hX hY
  generalize cmpB a b = r at *
  generalize a.length = n at *
  generalize b.length = m at *
  go_enter Tryz.func98, Tryz.ntmps98
  go_wp2
  rw [run_callFunc_extern Tryz.func134 (by kernel_rfl) (by kernel_rfl) (by kernel_rfl) (e := Extern.BytealgCompare.compare) (by kernel_rfl), HC.out]
  simp only [Result.andThen]
  rw [Oper.upon_value]
  go_wp2
  go_ret
  exact ⟨rfl, rfl⟩
theorem conv_rd {w : World} {B : Nat} {A : Option Addr} {bs : List Nat} (h : Rd w B A bs) (c : Nat) :
    (convert 33 9 (.slice A bs.length c)).run Tryz.prog w = .ok (.string (strOfNums (ints bs))) w := by
  rcases h with rfl | ⟨b, off, rfl, hb, hc⟩
  · exact run_convert_bytes_zero w 33 5 Tryz.underlying33 Tryz.underlying5 A c 9 Tryz.underlying9
  · refine run_convert_bytes_arg (P := Tryz.prog) w 33 5 Tryz.underlying33 Tryz.underlying5 b off bs.length c (ints bs) (ints_length bs) (fun i hi => ?_) 9 Tryz.underlying9
    rw [hc i hi]
    simp [ints, List.getD_eq_getElem?_getD, List.getElem?_map, List.getElem?_eq_getElem hi]
theorem str_eq (a b : List Nat) (ha : ∀ x ∈ a, x < 256) (hb : ∀ x ∈ b, x < 256) : ((strOfNums (ints a)).toList == (strOfNums (ints b)).toList) = decide (a = b) := by
  rw [Lib.strOfNums_toList, Lib.strOfNums_toList, Bool.eq_iff_iff]
  simp only [beq_iff_eq, decide_eq_true_eq]
  constructor
  · intro h
    exact bytes_inj a b ha hb h
  · rintro rfl; rfl
set_option maxHeartbeats 1000000 in
theorem beq_any (a b : List Nat) (n m : Nat) (hn : a.length = n) (hm : b.length = m) (ha : ∀ x ∈ a, x < 256) (hb : ∀ x ∈ b, x < 256) (X Y : Option Addr) (c d : Nat) (w : World) (B D : Nat) (hX : Rd w B X a) (hY : Rd w D Y b) :
    Calls Tryz.prog 122 #[.slice X n c, .slice Y m d] w fun e w' => e = .returned (.bool (decide (a = b))) ∧ w' = w := by
  subst hn hm
  have h1 := conv_rd hX c
  have h2 := conv_rd hY d
  have hE := Lib.hid (str_eq a b ha hb)
  clear ha hb hX hY
  generalize strOfNums (ints a) = S1 at *
  generalize strOfNums (ints b) = S2 at *
  generalize decide (a = b) = r at *
  generalize a.length = n at *
  generalize b.length = m at *
  go_enter Tryz.func122, Tryz.ntmps122
  go_wp2
  go_ret
  exact ⟨ret_bool hE.out, rfl⟩
end

section
set_option maxRecDepth 100000
set_option linter.unusedVariables false
open Go.RowKit Go.Shelf Go.Sort

def rAt (rs : List Rx) (i : Nat) : Rx := rs[i]?.getD default
/-- At each round's head: the first i have none. -/
def EbRel (rs : List Rx) (w : World) (p : Value) (wr : World) : Prop :=
  ∃ i : Nat, i ≤ rs.length ∧ p = .int .i64 (i : Int) ∧ (∀ j, j < i → chk (rAt rs j).1 (rAt rs j).2.2.2 = 0) ∧ Below w.heap.size w wr
def fE (x : Rx) : Int := chk x.1 x.2.2.2

set_option maxHeartbeats 1000000 in
theorem each_bits (rs : List Rx) (n : Nat) (hn : rs.length = n) (hn2 : n ≤ 9223372036854775807) (A : Option Addr) (c : Nat) (w : World) (h : RdR w w.heap.size A rs) (hb : ∀ x ∈ rs, ∀ b ∈ x.2.2.2, b < 256) :
    Calls Tryz.prog 94 #[.slice A n c, .func (.func 59) #[] #[]] w fun e w' => e = .returned (.int .i64 (eachE fE rs)) ∧ Below w.heap.size w w' := by
  have HR := Lib.hid h; clear h
  have HN := Lib.hid hn; clear hn
  have HBy := Lib.hid hb; clear hb
  go_enter Tryz.func94, Tryz.ntmps94
  go_wp2
  go_loopw [10] (fun p wr => EbRel rs w p wr) (fun p _ => n - (intOf p).toNat)
  case atStart => exact ⟨0, Nat.zero_le _, rfl, fun j hj => absurd hj (Nat.not_lt_zero _), Below.refl _ _⟩
  case round =>
    obtain ⟨i, hi, rfl, ht, hbel⟩ := hrel
    rw [HN.out] at hi
    by_cases hlt : i < n
    · have hin : i < rs.length := by rw [HN.out]; exact hlt
      have hxi : rs[i]? = some (rAt rs i) := by unfold rAt; rw [List.getElem?_eq_getElem hin]; rfl
      obtain ⟨b, off, rfl, hbl, k0, k1, k2⟩ := (HR.out.below hbel hbel.size).at_ hxi
      have hat := eachE_at fE rs i hin ht
      have hby := HBy.out _ (List.mem_of_getElem? hxi)
      have HT := Lib.hid ht; clear ht
      have HB := Lib.hid hbel; clear hbel
      have ex : rs[i]?.getD default = rAt rs i := rfl
      rw [ex] at hat
      have HRx := Lib.hid (show rAt rs i = rAt rs i from rfl)
      obtain ⟨x, hx⟩ : ∃ x, rAt rs i = x := ⟨_, rfl⟩
      rw [hx] at k0 k1 k2 hat hby
      have HX := Lib.hid hx; clear hx ex hxi HRx
      obtain ⟨len, A1, c1, bs⟩ := x
      simp only at k0 k1 k2 hby
      have hat' : chk len bs ≠ 0 → eachE fE rs = chk len bs := hat
      clear hat
      have HC : Hid (∀ V, Below wr.heap.size wr V → Calls Tryz.prog 59 #[.agg #[.int .i64 len, .slice A1 bs.length c1]] V fun e w' => e = .returned (.int .i64 (chk len bs)) ∧ Below V.heap.size V w') := fun V hV => check_any len A1 c1 bs V hby (k2.below hV hV.size)
      clear k2 hby
      generalize bs.length = N at *
      by_cases hf : chk len bs = 0
      · have HF := Lib.hid hf
        rw [hf] at HC
        clear hf hat'
        go_wp2_with fail
        refine (HC.out _ (one_below wr _)).mono ?_
        rintro e w1 ⟨rfl, b1⟩
        have HB1 : Hid (Below w.heap.size w w1) := HB.out.trans (((one_below wr _).trans (b1.mono (by simp))).mono HB.out.size)
        clear b1
        go_wp2
        go_roundw
        case rel => exact ⟨i + 1, by rw [HN.out]; omega, by go_num, fun j hj => by
          rcases Nat.lt_or_ge j i with h | h
          · exact HT.out j h
          · obtain rfl : j = i := by omega
            rw [HX.out]; exact HF.out, HB1.out⟩
        case measure => simp [intOf]; omega
      · have HE := Lib.hid (hat' hf)
        have t0 : (chk len bs == 0) = false := by simpa using hf
        clear hat'
        generalize chk len bs = y at *
        go_wp2_with fail
        refine (HC.out _ (one_below wr _)).mono ?_
        rintro e w1 ⟨rfl, b1⟩
        have HB1 : Hid (Below w.heap.size w w1) := HB.out.trans (((one_below wr _).trans (b1.mono (by simp))).mono HB.out.size)
        clear b1
        go_wp2
        go_ret
        exact ⟨ret_i64 HE.out.symm, HB1.out⟩
    · have HT : Hid (eachE fE rs = 0) := eachE_all fE rs (fun j hj => ht j (by rw [HN.out] at hj; omega))
      clear ht
      have HB := Lib.hid hbel; clear hbel
      go_wp2
      go_ret
      exact ⟨ret_i64 HT.out.symm, HB.out⟩

/-- A copy of a list of bits: a row of the call's own. -/
theorem rdr_news {w : World} {b off : Nat} {bs : List Bx} (hc : ∀ i x, (bs.map rx)[i]? = some x → w.cell? ⟨b, off + i * 2, none⟩ = some (.int .i64 x.1) ∧ w.cell? ⟨b, off + i * 2 + 1, none⟩ = some (.slice x.2.1 x.2.2.2.length x.2.2.1) ∧ Rd w w.heap.size x.2.1 x.2.2.2) :
    ∀ j u, (bs.flatMap encB)[j]? = some u → w.cell? ((⟨b, off, none⟩ : Addr).add j) = some u := by
  intro j u hu
  have hl := flatMap_len encB 2 encB_len bs
  have hj : j < bs.length * 2 := by have := (List.getElem?_eq_some_iff.1 hu).1; omega
  have ha : (⟨b, off, none⟩ : Addr).add j = ⟨b, off + j, none⟩ := by unfold Addr.add; split <;> simp_all
  rw [ha]
  have hq : j / 2 < bs.length := by omega
  have e := encBs_get bs (j / 2) (j % 2) hq (Nat.mod_lt _ (by omega))
  rw [show j / 2 * 2 + j % 2 = j by omega, hu] at e
  have hx : (bs.map rx)[j / 2]? = some (rx (bAt bs (j / 2))) := by rw [List.getElem?_map]; unfold bAt; rw [List.getElem?_eq_getElem hq]; rfl
  obtain ⟨c0, c1, _⟩ := hc _ _ hx
  rcases (show j % 2 = 0 ∨ j % 2 = 1 by omega) with h | h
  · rw [h] at e
    rw [show off + j = off + j / 2 * 2 by omega, c0]
    exact e.symm
  · rw [h] at e
    rw [show off + j = off + j / 2 * 2 + 1 by omega, c1]
    exact e.symm
set_option maxHeartbeats 1000000 in
theorem clone_any (bs : List Bx) (n : Nat) (hn : bs.length = n) (h64 : n ≤ 64) (A : Option Addr) (c : Nat) (w : World) (h : RdR w w.heap.size A (bs.map rx)) :
    Calls Tryz.prog 95 #[.slice A n c] w fun e w' => ∃ v, e = .returned v ∧ w'.ownsRow w.heap.size 35 2 v n (bs.flatMap encB) ∧ Below w.heap.size w w' := by
  obtain ⟨i0, hi, hz0, hz1, hz2⟩ := info_parts info_bits
  have HR := Lib.hid h; clear h
  have HN := Lib.hid hn; clear hn
  cases A with
  | none =>
    have hbs : bs = [] := by
      rcases HR.out with h | ⟨b, off, h, _⟩
      · simpa using h
      · cases h
    have h0 : n = 0 := by rw [← HN.out, hbs]; rfl
    subst h0
    have hq : (binOp .eql 83 (.slice none 0 c) (.slice none 0 0)).run Tryz.prog w = .ok (.bool true) w := Lib.run_eql_slice_nil w _ _ none 0 c 0 0 Tryz.underlying83
    go_enter Tryz.func95, Tryz.ntmps95
    go_wp2
    go_ret
    exact ⟨_, rfl, by rw [hbs]; exact ⟨rfl, .inl ⟨rfl, rfl⟩⟩, Below.refl _ _⟩
  | some a =>
    have HNs : Hid (∀ (V : World), Below w.heap.size w V → ∀ j u, (bs.flatMap encB)[j]? = some u → V.cell? (a.add j) = some u) := by
      intro V hV
      rcases HR.out.below hV hV.size with h | ⟨b, off, h, hb, hc⟩
      · have : bs = [] := by simpa using h
        subst this
        intro j u hu; simp at hu
      · simp only [Option.some.injEq] at h
        subst h
        exact rdr_news hc
    have HLn : Hid ((bs.flatMap encB).length = n * 2) := by show _ = _; rw [flatMap_len encB 2 encB_len, HN.out]
    have H1 : Hid (∀ u ∈ bs.flatMap encB, u.oneCell' = true) := by
      intro u hu
      obtain ⟨x, _, hx⟩ := List.mem_flatMap.1 hu
      exact encB_one x u hx
    have hq : (binOp .eql 83 (.slice (some a) n c) (.slice none 0 0)).run Tryz.prog w = .ok (.bool false) w := Lib.run_eql_slice_nil w _ _ (some a) n c 0 0 Tryz.underlying83
    have HO0 : (w.alloc (.cells #[] 35)).ownsRow w.heap.size 35 2 (.slice (some ⟨w.heap.size, 0, none⟩) 0 0) 0 [] :=
      ⟨rfl, .inr ⟨w.heap.size, 0, #[], rfl, Nat.le_refl _, World.alloc_heap_new w _, Nat.le_refl _, by unfold maxLen; omega, rfl, rfl⟩⟩
    go_enter Tryz.func95, Tryz.ntmps95
    go_wp2_with (at_builtin; refine wpList_append_own _ rfl _ _ 83 rfl w.heap.size 35 i0 (.agg #[.int .i64 0, .slice none 0 0]) 2 32 Tryz.underlying83 hi hz0 hz1 hz2 rfl (by decide) _ _ _ rfl HO0 a n c (bs.flatMap encB) rfl HLn.out (HNs.out _ (one_below w _)) H1.out (by unfold maxLen; omega) (by omega) (by simp) ?_; intro v' w3 hown' hgrow _)
    have HO3 := Lib.hid hown'
    have HB3 : Hid (Below w.heap.size w w3) := (one_below w _).trans (grown_low hgrow HO0 (by simp))
    clear hown' hgrow HO0
    go_wp2
    go_ret
    exact ⟨_, rfl, by simpa using HO3.out, HB3.out⟩
end

section
set_option maxRecDepth 100000
set_option linter.unusedVariables false
open Go.RowKit Go.Shelf Go.Sort

set_option maxHeartbeats 4000000 in
theorem closB (l1 l2 : Int) (A1 A2 : Option Addr) (n1 n2 c1 c2 : Nat) (a : Int) (W : World) (HC : ∀ V, Below W.heap.size W V → Calls Tryz.prog 98 #[.slice A1 n1 c1, .slice A2 n2 c2] V fun e w' => e = .returned (.int .i64 a) ∧ w' = V) :
    Calls Tryz.prog 97 #[.agg #[.int .i64 l1, .slice A1 n1 c1], .agg #[.int .i64 l2, .slice A2 n2 c2]] W fun e w' => e = .returned (.int .i64 (orI a (Lib.compareInt l1 l2))) ∧ ∃ q os', w' = grow (W.drewN q) os' := by
  have C1 := Lib.hid HC; clear HC
  have C2 := Lib.hid (cmpI l1 l2)
  have HO := Lib.hid (orI_new a (Lib.compareInt l1 l2))
  generalize Lib.compareInt l1 l2 = b at *
  generalize orI a b = r at *
  go_enter Tryz.func97, Tryz.ntmps97
  go_wp2_with fail
  generalize hV : (W.alloc (.cells #[.int .i64 l1, .slice A1 n1 c1] 35)).alloc (.cells #[.int .i64 l2, .slice A2 n2 c2] 35) = V0
  have HV : Hid (V0 = (W.alloc (.cells #[.int .i64 l1, .slice A1 n1 c1] 35)).alloc (.cells #[.int .i64 l2, .slice A2 n2 c2] 35)) := hV.symm
  have HVB : Hid (Below W.heap.size W V0) := hV ▸ (one_below W _).trans ((one_below _ _).mono (by simp))
  have HK : Hid (∀ w' : World, Below V0.heap.size V0 w' → w'.cell? ⟨W.heap.size, 1, none⟩ = some (.slice A1 n1 c1) ∧ w'.cell? ⟨W.heap.size + 1, 1, none⟩ = some (.slice A2 n2 c2) ∧ w'.cell? ⟨W.heap.size, 0, none⟩ = some (.int .i64 l1) ∧ w'.cell? ⟨W.heap.size + 1, 0, none⟩ = some (.int .i64 l2)) := by
    subst hV
    intro w' h
    have m0 := World.alloc_heap_new W (.cells #[.int .i64 l1, .slice A1 n1 c1] 35)
    have m1 := World.alloc_heap_new (W.alloc (.cells #[.int .i64 l1, .slice A1 n1 c1] 35)) (.cells #[.int .i64 l2, .slice A2 n2 c2] 35)
    have k0 := (h.block W.heap.size (by simp only [World.size_alloc]; omega)).trans ((Below.heap_alloc _ _ _ (by simp)).trans m0)
    have k1 := (h.block (W.alloc (.cells #[.int .i64 l1, .slice A1 n1 c1] 35)).heap.size (by simp)).trans m1
    rw [World.size_alloc] at k1
    exact ⟨(cell_at k0 _).trans rfl, (cell_at k1 _).trans rfl, (cell_at k0 _).trans rfl, (cell_at k1 _).trans rfl⟩
  clear hV
  have hk0 := HK.out V0 (Below.refl _ _)
  go_region_held3 (fun w' => w'.cell? ⟨W.heap.size, 1, none⟩ = some (.slice A1 n1 c1) ∧ w'.cell? ⟨W.heap.size + 1, 1, none⟩ = some (.slice A2 n2 c2) ∧ w'.cell? ⟨W.heap.size, 0, none⟩ = some (.int .i64 l1) ∧ w'.cell? ⟨W.heap.size + 1, 0, none⟩ = some (.int .i64 l2))
    ((refine HK.out _ ?_; first | exact (Below.refl _ _).drew | exact ((Below.refl _ _).drew).alloc (Nat.le_refl _) _ | exact ((Below.refl _ _).alloc (Nat.le_refl _) _).drew))
    (first
      | (go_at_call 98; refine (C1.out _ HVB.out.drew).mono ?_; rintro e w1 ⟨rfl, rfl⟩)
      | (go_at_call 89; refine (C2.out _).mono ?_; rintro e w1 ⟨rfl, rfl⟩)
      | (go_at_call 88; refine (HO.out (V0.alloc (.cells #[.int .i64 a, .int .i64 b] 3)).drew _ (World.alloc_heap_new V0 (.cells #[.int .i64 a, .int .i64 b] 3))).mono ?_; rintro e w1 ⟨rfl, rfl⟩))
  all_goals (
    go_wp2
    go_ret
    exact ⟨rfl, 1, _, by rw [HV.out, alloc_eq_grow, alloc_eq_grow, alloc_eq_grow, grow_grow, grow_grow, drew_grow]; rfl⟩)

/-- Do bits begin with bits? -/
theorem take_pack (x s : List Bool) (h : s.length ≤ x.length) : decide (pack (x.take s.length) = pack s) = decide (s <+: x) := by
  rw [Bool.eq_iff_iff]
  simp only [decide_eq_true_eq]
  constructor
  · intro e
    have := pack_inj (by simp; omega) e
    rw [List.prefix_iff_eq_take]
    exact this.symm
  · intro e
    rw [← List.prefix_iff_eq_take.1 e]
set_option maxHeartbeats 4000000 in
theorem begins_any (x s : List Bool) (lx ls : Nat) (hlx : x.length = lx) (hls : s.length = ls) (hx : lx ≤ 8192) (hs : ls ≤ 8192) (A1 A2 : Option Addr) (c1 c2 N1 N2 : Nat) (hN1 : (pack x).length = N1) (hN2 : (pack s).length = N2) (w : World) (r1 : Rd w w.heap.size A1 (pack x)) (r2 : Rd w w.heap.size A2 (pack s)) :
    Calls Tryz.prog 99 #[.agg #[.int .i64 (lx : Int), .slice A1 N1 c1], .agg #[.int .i64 (ls : Int), .slice A2 N2 c2]] w fun e w' => e = .returned (.bool (decide (s <+: x))) ∧ Below w.heap.size w w' := by
  have R1 := Lib.hid r1; have R2 := Lib.hid r2
  by_cases hle : ls ≤ lx
  · have hd := take_pack x s (by omega)
    have HC : Hid (∀ V : World, Below w.heap.size w V → Calls Tryz.prog 40 #[.agg #[.int .i64 (lx : Int), .slice A1 N1 c1], .int .i64 0, .int .i64 (ls : Int)] V (Gv V (ls : Int) (pack (x.take ls)).length (pack (x.take ls)) 0)) := by
      intro V hV
      have := cut_l0 x (x.take ls) (by omega) A1 c1 ls (by omega) rfl V (R1.out.on hV)
      have e1 : (x.take ls).length = ls := by simp; omega
      rw [e1, hlx, hN1] at this
      exact this
    have HE : Hid (∀ (V : World) (A3 : Option Addr) (c3 : Nat), Rd V V.heap.size A3 (pack (x.take ls)) → Below w.heap.size w V → Calls Tryz.prog 122 #[.slice A3 (pack (x.take ls)).length c3, .slice A2 N2 c2] V fun e w' => e = .returned (.bool (decide (s <+: x))) ∧ w' = V) := by
      intro V A3 c3 h3 hV
      rw [← hd, ← hN2, hls]
      exact beq_any _ _ _ _ rfl rfl (pack_lt _) (pack_lt _) A3 A2 c3 c2 V V.heap.size V.heap.size h3 (R2.out.on hV)
    clear r1 r2 hd hN1 hN2 hlx hls
    generalize decide (s <+: x) = res at *
    generalize pack (x.take ls) = bs at *
    generalize bs.length = N3 at *
    go_enter Tryz.func99, Tryz.ntmps99
    go_wp2_with fail
    generalize hV : (w.alloc (.cells #[.int .i64 (lx : Int), .slice A1 N1 c1] 35)).alloc (.cells #[.int .i64 (ls : Int), .slice A2 N2 c2] 35) = V0
    have HVB : Hid (Below w.heap.size w V0) := hV ▸ (one_below w _).trans ((one_below _ _).mono (by simp))
    have HVs : Hid (w.heap.size + 2 = V0.heap.size) := by show _ = _; rw [← hV, World.size_alloc, World.size_alloc]
    have HK : Hid (∀ w' : World, Below V0.heap.size V0 w' → w'.cell? ⟨w.heap.size + 1, 1, none⟩ = some (.slice A2 N2 c2)) := by
      subst hV
      intro w' h
      have m1 := World.alloc_heap_new (w.alloc (.cells #[.int .i64 (lx : Int), .slice A1 N1 c1] 35)) (.cells #[.int .i64 (ls : Int), .slice A2 N2 c2] 35)
      have k1 := (h.block (w.alloc (.cells #[.int .i64 (lx : Int), .slice A1 N1 c1] 35)).heap.size (by simp)).trans m1
      rw [World.size_alloc] at k1
      exact (cell_at k1 _).trans rfl
    clear hV
    refine (HC.out V0 HVB.out).mono ?_
    rintro e w3 ⟨A3, c3, rfl, r3, b3⟩
    have HR3 := Lib.hid r3; have HB3 := Lib.hid b3
    clear r3 b3
    have hw3 : w.heap.size + 2 ≤ w3.heap.size := by have := HB3.out.size; have := HVs.out; omega
    have k5 := HK.out (w3.alloc (.cells #[.int .i64 (ls : Int), .slice A3 N3 c3] 35)) (HB3.out.trans ((one_below w3 _).mono HB3.out.size))
    go_wp2_with fail
    refine (HE.out _ A3 c3 (HR3.out.on (one_below w3 _)) ((HVB.out.trans (HB3.out.mono HVB.out.size)).trans ((one_below w3 _).mono (by omega)))).mono ?_
    rintro e w4 ⟨rfl, rfl⟩
    go_wp2
    go_ret
    exact ⟨rfl, (HVB.out.trans (HB3.out.mono HVB.out.size)).trans ((one_below w3 _).mono (by omega))⟩
  · have hd : decide (s <+: x) = false := by
      rw [decide_eq_false_iff_not]
      intro h
      have := h.length_le
      omega
    rw [hd]
    have HC : Hid (∀ V : World, Below w.heap.size w V → Calls Tryz.prog 40 #[.agg #[.int .i64 (lx : Int), .slice A1 N1 c1], .int .i64 0, .int .i64 (ls : Int)] V (Gv V 0 0 (pack []) 3)) := by
      intro V hV
      have he : cutE (lx : Int) (pack x) 0 (ls : Int) = 3 := by
        unfold cutE
        rw [← hlx, chk_pack x (by omega), if_neg (by simp), if_pos (by omega)]
      have := cut_e (lx : Int) A1 c1 (pack x) 0 (ls : Int) 3 (pack_lt x) he (by decide) V (R1.out.on hV)
      rw [hN1] at this
      exact this
    clear r1 r2 hd hN1 hN2 hlx hls
    go_enter Tryz.func99, Tryz.ntmps99
    go_wp2_with fail
    generalize hV : (w.alloc (.cells #[.int .i64 (lx : Int), .slice A1 N1 c1] 35)).alloc (.cells #[.int .i64 (ls : Int), .slice A2 N2 c2] 35) = V0
    have HVB : Hid (Below w.heap.size w V0) := hV ▸ (one_below w _).trans ((one_below _ _).mono (by simp))
    clear hV
    refine (HC.out V0 HVB.out).mono ?_
    rintro e w3 ⟨A3, c3, rfl, r3, b3⟩
    have HB3 := Lib.hid b3
    clear r3 b3
    have hw3 : w.heap.size ≤ w3.heap.size := Nat.le_trans HVB.out.size HB3.out.size
    go_wp2
    go_ret
    exact ⟨rfl, (HVB.out.trans (HB3.out.mono HVB.out.size)).trans ((one_below w3 _).mono hw3)⟩
end

section
set_option maxRecDepth 100000
set_option linter.unusedVariables false
open Go.RowKit Go.Shelf Go.Sort

theorem orI_cmp (x y : List Bool) : orI (cmpB (pack x) (pack y)) (Lib.compareInt (x.length : Int) (y.length : Int)) = cmpL x y := by
  unfold orI cmpL
  by_cases h : cmpB (pack x) (pack y) = 0
  · rw [if_pos h, if_neg (by omega)]
    unfold Lib.compareInt
    rcases Nat.lt_trichotomy x.length y.length with h | h | h
    · rw [if_pos (by omega), if_pos h]
    · rw [if_neg (by omega), if_neg (by omega), if_neg (by omega), if_neg (by omega)]
    · rw [if_neg (by omega), if_pos (by omega), if_neg (by omega), if_pos h]
  · rw [if_neg h, if_pos h]
/-- Bits that are right and can be read below a block. -/
def Ok (w : World) (B : Nat) (x : Bx) : Prop := Rd w B x.2.1 (pack x.1) ∧ x.1.length ≤ 8192
abbrev Sx (w : World) (B : Nat) := { x : Bx // Ok w B x }
instance (w : World) (B : Nat) : Inhabited (Sx w B) := ⟨⟨([], none, 0), .inl rfl, by simp⟩⟩
def encS (w : World) (B : Nat) (x : Sx w B) : List Value := encB x.1
def cfS (w : World) (B : Nat) (x y : Sx w B) : Int := cmpL x.1.1 y.1.1
theorem swoS (w : World) (B : Nat) : SWO (ltOf (cfS w B)) where
  irrefl x := by unfold ltOf cfS; rw [decide_eq_false_iff_not, cmpL_lt _ _ x.2.2 x.2.2]; omega
  trans x y z h1 h2 := by
    unfold ltOf cfS at *
    rw [decide_eq_true_eq, cmpL_lt _ _ x.2.2 y.2.2] at h1
    rw [decide_eq_true_eq, cmpL_lt _ _ y.2.2 z.2.2] at h2
    rw [decide_eq_true_eq, cmpL_lt _ _ x.2.2 z.2.2]
    omega
  ntrans x y z h1 h2 := by
    unfold ltOf cfS at *
    rw [decide_eq_false_iff_not, cmpL_lt _ _ x.2.2 y.2.2] at h1
    rw [decide_eq_false_iff_not, cmpL_lt _ _ y.2.2 z.2.2] at h2
    rw [decide_eq_false_iff_not, cmpL_lt _ _ x.2.2 z.2.2]
    omega
theorem sw_block {α : Type} [Inhabited α] (enc : α → List Value) (k : Nat) (w : World) (g m : Nat) (dk : Array α) (os : Array Obj) (j : Nat) (hj : j < w.heap.size) (hg : j ≠ g) : (sortWorldK enc k w g 0 m dk os).heap[j]? = w.heap[j]? := by
  unfold sortWorldK
  rw [heap_grow_old _ _ (by unfold putRowK; rw [size_putRow]; exact hj)]
  show (w.heap.modify g _)[j]? = _
  rw [Array.getElem?_modify, if_neg (fun e => hg e.symm)]
theorem rd_lt {w : World} {B : Nat} {A : Option Addr} {bs : List Nat} (h : Rd w B A bs) {w' : World} {B' : Nat} (hk : ∀ k, k < B → w'.heap[k]? = w.heap[k]?) (hB : B ≤ B') : Rd w' B' A bs := h.keep hB hk
theorem cmpLaysS (g size : Nat) (w : World) (B : Nat) (hBg : B ≤ g) (hg : g < w.heap.size) : CmpLays Tryz.prog 97 #[] (encS w B) 2 (cfS w B) g 0 size w := by
  intro m os dk hs x y
  obtain ⟨⟨x1, A1, c1⟩, hx1, hx2⟩ := x
  obtain ⟨⟨y1, A2, c2⟩, hy1, hy2⟩ := y
  have hc := closB (x1.length : Int) (y1.length : Int) A1 A2 (pack x1).length (pack y1).length c1 c2 (cmpB (pack x1) (pack y1)) (sortWorldK (encS w B) 2 w g 0 m dk os) (fun V hV => by
    have hsz : w.heap.size ≤ (sortWorldK (encS w B) 2 w g 0 m dk os).heap.size := size_sortWorldK_c _ _ _ _ _ _ _ _
    have hk : ∀ k, k < B → V.heap[k]? = w.heap[k]? := fun k hk => (hV.block k (by omega)).trans (sw_block _ _ _ _ _ _ _ k (by omega) (by omega))
    exact bcmp_any (pack x1) (pack y1) _ _ rfl rfl (pack_lt _) (pack_lt _) A1 A2 c1 c2 V B B (rd_lt hx1 hk (Nat.le_refl _)) (rd_lt hy1 hk (Nat.le_refl _)))
  rw [orI_cmp] at hc
  exact hc
theorem entersB : ∀ args w, (callFunc 97 args).run Tryz.prog w = .ok (.enter 97 args) w := enters_of Tryz.func97 (by kernel_rfl) rfl
theorem sx_list (w : World) (B : Nat) : ∀ bs : List Bx, (∀ x ∈ bs, Ok w B x) → ∃ ss : List (Sx w B), ss.map (fun x => x.1) = bs
  | [], _ => ⟨[], rfl⟩
  | x :: t, h => by
    obtain ⟨ss, hs⟩ := sx_list w B t (fun y hy => h y (List.mem_cons_of_mem _ hy))
    exact ⟨⟨x, h x List.mem_cons_self⟩ :: ss, by simp [hs]⟩
theorem sx_flat (w : World) (B : Nat) (ss : List (Sx w B)) : ss.flatMap (encS w B) = (ss.map (fun x => x.1)).flatMap encB := by
  induction ss with
  | nil => rfl
  | cons x t ih => rw [List.flatMap_cons, List.map_cons, List.flatMap_cons, ih]; rfl
theorem sortB_any (bs : List Bx) (n : Nat) (hn : bs.length = n) (h64 : n ≤ 64) (base B : Nat) (v : Value) (w : World) (hB : B ≤ base) (hok : ∀ x ∈ bs, Ok w B x) (h : w.ownsRow base 35 2 v n (bs.flatMap encB)) :
    Calls Tryz.prog 96 #[v, .func (.func 97) #[] #[]] w fun e w' => e = .returned (.tuple #[]) ∧ ∃ bs' : List Bx, bs'.Perm bs ∧ (bs'.map (fun x => x.1)).Pairwise (fun x y => key x ≤ key y) ∧ w'.ownsRow base 35 2 v n (bs'.flatMap encB) ∧ Below base w w' := by
  rcases h.2 with ⟨rfl, h0⟩ | ⟨g, cap, cur, rfl, hb, hg, h1, h2, h3, h4⟩
  · subst h0
    have : bs = [] := List.eq_nil_of_length_eq_zero hn
    subst this
    exact (AnyF.slices_SortFunc_none sortB none 0 _ w).mono fun e w' ⟨he, hw⟩ => by
      subst hw
      exact ⟨he, [], .refl _, .nil, h, Below.refl _ _⟩
  · obtain ⟨ss, hss⟩ := sx_list w B bs hok
    have hl : ss.length = n := by rw [← hn, ← hss, List.length_map]
    have hgs : g < w.heap.size := (Array.getElem?_eq_some_iff.1 hg).1
    have h' : w.ownsRow base 35 2 (.slice (some ⟨g, 0, none⟩) n cap) n (ss.flatMap (encS w B)) := by rw [sx_flat, hss]; exact h
    have hcon := AnyQ.slices_SortFunc sortB 2 Tryz.isAgg35 Tryz.sizeOf35 (encS w B) (fun x => encB_len x.1) (fun x => encB_one x.1) (cfS w B) (swoS w B) 97 #[] g 0 cap ss.toArray w entersB (cmpLaysS g _ w B (by omega) hgs) (own_holdsK (encS w B) 2 (fun x => encB_len x.1) ss h' hl) hgs (by simp [hl]; omega)
    have es : ss.toArray.size = n := by simp [hl]
    rw [es] at hcon
    refine hcon.mono ?_
    rintro e w' ⟨he, d', m, os, hP, hS, rfl⟩
    obtain ⟨p1, p2⟩ := perm_list (by rw [es]; exact hP) (by rw [es]; exact hS)
    rw [List.toList_toArray] at p1
    have hl' : d'.toList.length = n := by rw [p1.length_eq]; exact hl
    have hput := put_own (encS w B) 2 (fun x => encB_len x.1) ss d'.toList h' hl hl' m os
    rw [sx_flat] at hput
    refine ⟨he, d'.toList.map (fun x => x.1), by rw [← hss]; exact p1.map _, ?_, hput.1, hput.2⟩
    rw [List.map_map]
    refine List.pairwise_map.2 (p2.imp fun {x y} hxy => ?_)
    unfold ltOf cfS at hxy
    rw [decide_eq_false_iff_not, cmpL_lt _ _ y.2.2 x.2.2] at hxy
    simp only [Function.comp]
    omega
theorem own_rdb {w : World} {base n : Nat} {v : Value} {bs : List Bx} (hn : bs.length = n) (h : w.ownsRow base 35 2 v n (bs.flatMap encB)) (hr : ∀ x ∈ bs, Rd w w.heap.size x.2.1 (pack x.1)) : ∃ A c, v = .slice A n c ∧ RdR w w.heap.size A (bs.map rx) := by
  rcases h.2 with ⟨rfl, rfl⟩ | ⟨g, cap, cur, rfl, hb, hg, h1, h2, h3, h4⟩
  · exact ⟨none, 0, rfl, .inl (by rw [List.eq_nil_of_length_eq_zero hn]; rfl)⟩
  · exact ⟨_, cap, rfl, own_rdr h hr⟩
/-- None begins with another one. -/
def apart (ls : List (List Bool)) : Prop := (ls.filter (fun x => !x.isEmpty)).Pairwise pf
theorem apart_perm {a b : List (List Bool)} (h : a.Perm b) : apart a ↔ apart b := (h.filter _).pairwise_iff (fun h => pf_symm h)
theorem adj_cons (b x : List Bool) (t : List (List Bool)) : adj b (x :: t) = if b ≠ [] ∧ b <+: x then false else adj x t := rfl
theorem key_nil : key [] = 0 := by
  unfold key zv
  rw [show num [] = 0 from rfl, Nat.zero_mul]; rfl
theorem box_put {w : World} {K : Nat} {T : TypeId} {a b : Value} (h : w.heap[K]? = some (.cells #[a, b] T (0, 0))) (u v : Value) (o : Obj) : (((w.setCell ⟨K, 0, none⟩ u).setCell ⟨K, 1, none⟩ v).alloc o).heap[K]? = some (.cells #[u, v] T (0, 0)) := by
  have hK : K < w.heap.size := (Array.getElem?_eq_some_iff.1 h).1
  rw [Below.heap_alloc _ _ _ (by simpa [World.setCell] using hK), heap_set_same _ _ _ _ _ _ (heap_set_same _ _ _ _ _ _ h)]
  simp
theorem adj_apart (ls : List (List Bool)) (h : ∀ x ∈ ls, x.length ≤ 8192) (hs : ls.Pairwise (fun x y => key x ≤ key y)) : adj [] ls = true ↔ apart ls := by
  have := adj_true ls [] (by simp) h (List.pairwise_cons.2 ⟨fun x _ => by rw [key_nil]; exact Nat.zero_le _, hs⟩)
  rw [this]
  unfold apart
  simp
/-- What Apart answers. -/
def ApP (w : World) (ls : List (List Bool)) (e : Ending) (w' : World) : Prop := ∃ b : Bool, (b = true ↔ apart ls) ∧ e = .returned (.tuple #[.bool b, .int .i64 0]) ∧ Below w.heap.size w w'
/-- At each round's head: the first i begin with none ahead of them. -/
def ApRel (ls : List (List Bool)) (w4 : World) (Bb : Nat) (p : Value) (wr : World) : Prop :=
  ∃ (i : Nat) (x0 : Bx), i ≤ ls.length ∧ p = .int .i64 (i : Int) ∧ wr.heap[Bb]? = some (.cells #[.int .i64 (x0.1.length : Int), .slice x0.2.1 (pack x0.1).length x0.2.2] 35 (0, 0)) ∧
    Rd wr Bb x0.2.1 (pack x0.1) ∧ x0.1.length ≤ 8192 ∧ adj x0.1 (ls.drop i) = adj [] ls ∧ Below w4.heap.size w4 wr

set_option maxHeartbeats 4000000 in
theorem apart_ok (bs : List Bx) (n : Nat) (hn : bs.length = n) (h64 : n ≤ 64) (A : Option Addr) (c : Nat) (w : World) (h : RdR w w.heap.size A (bs.map rx)) (h8 : ∀ x ∈ bs, x.1.length ≤ 8192) :
    Calls Tryz.prog 51 #[.slice A n c] w (ApP w (bs.map (fun x => x.1))) := by
  have hE : eachE fE (bs.map rx) = 0 := by
    rw [eachE_zero]
    intro x hx
    obtain ⟨y, hy, rfl⟩ := List.mem_map.1 hx
    exact chk_pack _ (h8 y hy)
  have HE0 := each_bits (bs.map rx) n (by rw [List.length_map]; exact hn) (by omega) A c w h (fun x hx => by
    obtain ⟨y, hy, rfl⟩ := List.mem_map.1 hx
    exact pack_lt _)
  rw [hE] at HE0
  have HE := Lib.hid HE0; clear HE0 hE
  have HCl : Hid (∀ V, Below w.heap.size w V → Calls Tryz.prog 95 #[.slice A n c] V fun e w' => ∃ v, e = .returned v ∧ w'.ownsRow V.heap.size 35 2 v n (bs.flatMap encB) ∧ Below V.heap.size V w') := fun V hV => clone_any bs n hn h64 A c V (h.on hV)
  have HRd : Hid (∀ x ∈ bs, Rd w w.heap.size x.2.1 (pack x.1)) := by
    intro x hx
    obtain ⟨i, hi, rfl⟩ := List.getElem_of_mem hx
    obtain ⟨_, _, _, _, _, _, r⟩ := h.at_ (show (bs.map rx)[i]? = some (rx bs[i]) by simp [hi])
    exact r
  have H8 := Lib.hid h8
  have HN := Lib.hid hn
  clear h h8
  go_enter Tryz.func51, Tryz.ntmps51
  go_wp2_with fail
  refine HE.out.mono ?_
  rintro e w1 ⟨rfl, b1⟩
  have HB1 := Lib.hid b1; clear b1
  go_wp2_with fail
  refine (HCl.out w1 HB1.out).mono ?_
  rintro e w2 ⟨v, rfl, o2, b2⟩
  have HO2 := Lib.hid o2; have HB2 : Hid (Below w.heap.size w w2) := HB1.out.trans (b2.mono HB1.out.size)
  have HOk : Hid (∀ x ∈ bs, Ok w2 w.heap.size x) := fun x hx => ⟨(HRd.out x hx).below HB2.out (Nat.le_refl _), H8.out x hx⟩
  have HS := Lib.hid (sortB_any bs n hn h64 w1.heap.size w.heap.size v w2 HB1.out.size HOk.out o2)
  have hs12 : w1.heap.size ≤ w2.heap.size := b2.size
  clear o2 b2
  go_wp2_with fail
  refine HS.out.mono ?_
  rintro e w3 ⟨rfl, bs', hp, hsort, o3, b3⟩
  have HB3 : Hid (Below w.heap.size w w3) := HB2.out.trans (b3.mono HB1.out.size)
  have hl' : bs'.length = n := by rw [hp.length_eq]; exact hn
  obtain ⟨Av, cv, rfl, rr3⟩ := own_rdb hl' o3 (fun x hx => ((HRd.out x (hp.subset hx)).below HB3.out (HB3.out.size)))
  have HRR := Lib.hid rr3
  have H8' : Hid (∀ x ∈ bs', x.1.length ≤ 8192) := fun x hx => H8.out x (hp.subset hx)
  have HAd : Hid (adj [] (bs'.map (fun x => x.1)) = true ↔ apart (bs.map (fun x => x.1))) := by
    have h1 := adj_apart (bs'.map (fun x => x.1)) (fun x hx => by
      obtain ⟨y, hy, rfl⟩ := List.mem_map.1 hx
      exact H8'.out y hy) hsort
    rw [show _ ↔ _ from h1]
    exact apart_perm (hp.map _)
  have HRd' : Hid (∀ x ∈ bs', Rd w w.heap.size x.2.1 (pack x.1)) := fun x hx => HRd.out x (hp.subset hx)
  have HL : Hid (bs'.length = n) := hl'
  clear o3 b3 rr3 hp hsort HS HO2 HOk hl'
  have HLs : Hid ((bs'.map (fun x => x.1)).length = n) := by show _ = _; rw [List.length_map]; exact HL.out
  go_wp2
  go_loopw [24] (fun p wr => ApRel (bs'.map (fun x => x.1)) w3 w3.heap.size p wr) (fun p _ => n - (intOf p).toNat)
  case atStart => exact ⟨0, ([], none, 0), Nat.zero_le _, rfl, World.alloc_heap_new w3 _, .inl rfl, by simp, rfl, one_below w3 _⟩
  case round =>
    obtain ⟨i, x0, hi, rfl, hbox, hr0, h80, hadj, hbel⟩ := hrel
    rw [HLs.out] at hi
    by_cases hlt : i < n
    · have hin : i < bs'.length := by rw [HL.out]; exact hlt
      have hyi : bs'[i]? = some (bAt bs' i) := by unfold bAt; rw [List.getElem?_eq_getElem hin]; rfl
      have hyi2 : (bs'.map rx)[i]? = some (rx (bAt bs' i)) := by rw [List.getElem?_map, hyi]; rfl
      obtain ⟨b, off, rfl, hb, k0, k1, k2⟩ := (HRR.out.below hbel hbel.size).at_ hyi2
      have h8y := H8'.out _ (List.mem_of_getElem? hyi)
      have hrdy := HRd'.out _ (List.mem_of_getElem? hyi)
      have hdr : (bs'.map (fun x => x.1)).drop i = (bAt bs' i).1 :: (bs'.map (fun x => x.1)).drop (i + 1) := by
        rw [List.drop_eq_getElem_cons (by simpa using hin), List.getElem_map]
        unfold bAt; rw [List.getElem?_eq_getElem hin]; rfl
      rw [hdr, adj_cons] at hadj
      have hw3r : w3.heap.size < wr.heap.size := (Array.getElem?_eq_some_iff.1 hbox).1
      have z0 : wr.cell? ⟨w3.heap.size, 0, none⟩ = some (.int .i64 (x0.1.length : Int)) := (cell_at hbox _).trans rfl
      have z1 : wr.cell? ⟨w3.heap.size, 1, none⟩ = some (.slice x0.2.1 (pack x0.1).length x0.2.2) := (cell_at hbox _).trans rfl
      have f0 : wr.frozen? ⟨w3.heap.size, 0, none⟩ = false := by simp [World.frozen?, hbox]
      have f1 : wr.frozen? ⟨w3.heap.size, 1, none⟩ = false := by simp [World.frozen?, hbox]
      have HBel := Lib.hid hbel; have HBox := Lib.hid hbox
      obtain ⟨y, hy⟩ : ∃ y, bAt bs' i = y := ⟨_, rfl⟩
      rw [hy] at k0 k1 k2 h8y hadj hrdy
      obtain ⟨y1, Ay, cy⟩ := y
      obtain ⟨x1, Ax, cx⟩ := x0
      simp only [rx] at k0 k1 k2 h8y hadj hr0 h80 z0 z1 HBox hrdy
      have HRy := Lib.hid hrdy
      have HK2 := Lib.hid k2; have HR0 := Lib.hid hr0
      have hw3le : w.heap.size ≤ wr.heap.size := Nat.le_trans HB3.out.size (by omega)
      have HBg : Hid (∀ V : World, Below wr.heap.size wr V → Calls Tryz.prog 99 #[.agg #[.int .i64 (y1.length : Int), .slice Ay (pack y1).length cy], .agg #[.int .i64 (x1.length : Int), .slice Ax (pack x1).length cx]] V fun e w' => e = .returned (.bool (decide (x1 <+: y1))) ∧ Below V.heap.size V w') := fun V hV =>
        begins_any y1 x1 _ _ rfl rfl h8y h80 Ay Ax cy cx _ _ rfl rfl V (HK2.out.below (hV.mono (by omega)) (by have := hV.size; omega)) (HR0.out.below (hV.mono (by omega)) (by have := hV.size; omega))
      clear hyi hyi2 hdr hy k2 hr0 hbel hbox
      by_cases hx0 : x1.length = 0
      · have hnil : x1 = [] := List.eq_nil_of_length_eq_zero hx0
        rw [if_neg (fun h => h.1 hnil)] at hadj
        have HAj := Lib.hid hadj
        have t0 : ((x1.length : Nat) : Int) = 0 := by omega
        rw [t0] at z0
        clear hadj t0
        have HNx : Hid ((pack y1).length = (pack y1).length) := rfl
        generalize (pack x1).length = Nx at *
        have HB9 : Hid (Below w3.heap.size w3 (((wr.setCell ⟨w3.heap.size, 0, none⟩ (.int .i64 (y1.length : Int))).setCell ⟨w3.heap.size, 1, none⟩ (.slice Ay (pack y1).length cy)).alloc (.cells #[.int .i64 (y1.length : Int), .slice Ay (pack y1).length cy] 35))) := ((HBel.out.setCell (Nat.le_refl _) _).setCell (Nat.le_refl _) _).alloc (by simp [World.setCell]; omega) _
        have HX9 := Lib.hid (box_put HBox.out (.int .i64 (y1.length : Int)) (.slice Ay (pack y1).length cy) (.cells #[.int .i64 (y1.length : Int), .slice Ay (pack y1).length cy] 35))
        have HR9 : Hid (Rd _ w3.heap.size Ay (pack y1)) := HRy.out.below (HB3.out.trans (HB9.out.mono HB3.out.size)) HB3.out.size
        have H8y := Lib.hid h8y
        clear HK2 HBox h8y hrdy
        go_wp2
        go_roundw
        case rel => exact ⟨i + 1, (y1, Ay, cy), by rw [HLs.out]; omega, by go_num, HX9.out, HR9.out, H8y.out, HAj.out, HB9.out⟩
        case measure => simp [intOf]; omega
      · have hpos : 0 < x1.length := by omega
        have tpos : decide ((0 : Int) < (x1.length : Int)) = true := by simp; omega
        have hne : x1 ≠ [] := by rintro rfl; simp at hpos
        by_cases hp : x1 <+: y1
        · rw [if_pos ⟨hne, hp⟩] at hadj
          have HF : Hid ((false = true) ↔ apart (bs.map (fun x => x.1))) := by
            have := HAd.out
            rw [← hadj] at this
            exact this
          rw [decide_eq_true hp] at HBg
          clear hadj hp hne HK2 HBox h8y hrdy hx0
          generalize x1.length = lx at *
          generalize (pack x1).length = Nx at *
          go_wp2_with fail
          refine (HBg.out _ (one_below wr _)).mono ?_
          rintro e w7 ⟨rfl, b7⟩
          have HB7 : Hid (Below w.heap.size w w7) := HB3.out.trans ((HBel.out.trans (((one_below wr _).trans (b7.mono (by simp))).mono (by omega))).mono HB3.out.size)
          clear b7
          go_wp2
          go_ret2
          exact ⟨false, HF.out, rfl, HB7.out⟩
        · rw [if_neg (fun h => hp h.2)] at hadj
          have HAj := Lib.hid hadj
          rw [decide_eq_false hp] at HBg
          have H8y := Lib.hid h8y
          clear hadj hp hne HK2 h8y hrdy hx0
          generalize x1.length = lx at *
          generalize (pack x1).length = Nx at *
          go_wp2_with fail
          refine (HBg.out _ (one_below wr _)).mono ?_
          rintro e w7 ⟨rfl, b7⟩
          have HB7 : Hid (Below w3.heap.size w3 w7) := HBel.out.trans (((one_below wr _).trans (b7.mono (by simp))).mono (by omega))
          have HX7 := Lib.hid ((((one_below wr (.cells #[.int .i64 (y1.length : Int), .slice Ay (pack y1).length cy] 35)).trans (b7.mono (by simp))).block w3.heap.size hw3r).trans HBox.out)
          have n0 := World.alloc_heap_new wr (.cells #[.int .i64 (y1.length : Int), .slice Ay (pack y1).length cy] 35)
          have k9 := (b7.block wr.heap.size (by simp)).trans n0
          have q0 : w7.cell? ⟨wr.heap.size, 0, none⟩ = some (.int .i64 (y1.length : Int)) := (cell_at k9 _).trans rfl
          have q1 : w7.cell? ⟨wr.heap.size, 1, none⟩ = some (.slice Ay (pack y1).length cy) := (cell_at k9 _).trans rfl
          have g0 : w7.cell? ⟨w3.heap.size, 0, none⟩ = some (.int .i64 (lx : Int)) := (cell_at HX7.out _).trans rfl
          have g1 : w7.cell? ⟨w3.heap.size, 1, none⟩ = some (.slice Ax Nx cx) := (cell_at HX7.out _).trans rfl
          have g2 : w7.frozen? ⟨w3.heap.size, 0, none⟩ = false := by simp [World.frozen?, HX7.out]
          have g3 : w7.frozen? ⟨w3.heap.size, 1, none⟩ = false := by simp [World.frozen?, HX7.out]
          clear b7 n0 k9
          have HB9 : Hid (Below w3.heap.size w3 ((w7.setCell ⟨w3.heap.size, 0, none⟩ (.int .i64 (y1.length : Int))).setCell ⟨w3.heap.size, 1, none⟩ (.slice Ay (pack y1).length cy))) := (HB7.out.setCell (Nat.le_refl _) _).setCell (Nat.le_refl _) _
          have HX9 : Hid (((w7.setCell ⟨w3.heap.size, 0, none⟩ (.int .i64 (y1.length : Int))).setCell ⟨w3.heap.size, 1, none⟩ (.slice Ay (pack y1).length cy)).heap[w3.heap.size]? = some (.cells #[.int .i64 (y1.length : Int), .slice Ay (pack y1).length cy] 35 (0, 0))) := by
            show _ = _
            rw [heap_set_same _ _ _ _ _ _ (heap_set_same _ _ _ _ _ _ HX7.out)]
            simp
          have HR9 : Hid (Rd _ w3.heap.size Ay (pack y1)) := HRy.out.below (HB3.out.trans (HB9.out.mono HB3.out.size)) HB3.out.size
          go_wp2
          go_roundw
          case rel => exact ⟨i + 1, (y1, Ay, cy), by rw [HLs.out]; omega, by go_num, HX9.out, HR9.out, H8y.out, HAj.out, HB9.out⟩
          case measure => simp [intOf]; omega
    · have he : (bs'.map (fun x => x.1)).drop i = [] := List.drop_eq_nil_of_le (by rw [HLs.out]; omega)
      rw [he] at hadj
      have HF : Hid ((true = true) ↔ apart (bs.map (fun x => x.1))) := by
        have := HAd.out
        rw [← hadj] at this
        exact this
      have HB7 := Lib.hid hbel
      clear hadj he hbox hr0 h80 hbel
      go_wp2
      go_ret2
      exact ⟨true, ⟨fun _ => by simpa using HF.out, fun _ => rfl⟩, rfl, HB3.out.trans (HB7.out.mono HB3.out.size)⟩
/-- Apart that answers an error. -/
def apE (rs : List Rx) : Int := if 64 < rs.length then 2 else eachE fE rs
set_option maxHeartbeats 1000000 in
theorem apart_e (rs : List Rx) (n : Nat) (hn : rs.length = n) (hn2 : n ≤ 9223372036854775807) (A : Option Addr) (c : Nat) (w : World) (h : RdR w w.heap.size A rs) (hb : ∀ x ∈ rs, ∀ b ∈ x.2.2.2, b < 256) (e0 : Int) (he : apE rs = e0) (h0 : e0 ≠ 0) :
    Calls Tryz.prog 51 #[.slice A n c] w fun e w' => e = .returned (.tuple #[.bool false, .int .i64 e0]) ∧ Below w.heap.size w w' := by
  unfold apE at he
  rw [hn] at he
  by_cases h64 : 64 < n
  · rw [if_pos h64] at he
    subst he
    go_enter Tryz.func51, Tryz.ntmps51
    go_wp2
    go_ret2
    exact ⟨rfl, Below.refl _ _⟩
  · rw [if_neg h64] at he
    have HE0 := each_bits rs n hn hn2 A c w h hb
    rw [he] at HE0
    have HE := Lib.hid HE0; clear HE0 h hb hn he
    have t0 : (e0 == 0) = false := by simpa using h0
    clear h0
    go_enter Tryz.func51, Tryz.ntmps51
    go_wp2_with fail
    refine HE.out.mono ?_
    rintro e w1 ⟨rfl, b1⟩
    go_wp2
    go_ret2
    exact ⟨rfl, b1⟩
/-- Where there is no error all are right. -/
theorem apE_zero (rs : List Rx) (hb : ∀ x ∈ rs, ∀ b ∈ x.2.2.2, b < 256) (h : apE rs = 0) : ∃ bs : List Bx, rs = bs.map rx ∧ rs.length ≤ 64 ∧ ∀ x ∈ bs, x.1.length ≤ 8192 := by
  unfold apE at h
  by_cases h64 : 64 < rs.length
  · rw [if_pos h64] at h; omega
  · rw [if_neg h64, eachE_zero] at h
    refine ⟨rs.map (fun x => (unpack x.1.toNat x.2.2.2, x.2.1, x.2.2.1)), ?_, by omega, ?_⟩
    · rw [List.map_map]
      conv => lhs; rw [← List.map_id rs]
      refine List.map_congr_left fun x hx => ?_
      obtain ⟨l, h1, h2, h3⟩ := chk_zero x.1 x.2.2.2 (hb x hx) (h x hx)
      obtain ⟨a, b, c, d⟩ := x
      simp only at h1 h3
      subst h1 h3
      have e : unpack l.length (pack l) = l := by
        apply pack_inj (by rw [unpack_length])
        exact pack_unpack _ _ (pack_lt l) (pack_length l) (stray_pack l)
      simp [rx, e]
    · intro x hx
      obtain ⟨y, hy, rfl⟩ := List.mem_map.1 hx
      obtain ⟨l, h1, h2, h3⟩ := chk_zero y.1 y.2.2.2 (hb y hy) (h y hy)
      simp only [unpack_length, h1]
      omega
end

section
set_option maxRecDepth 100000
set_option linter.unusedVariables false
open Go.RowKit Go.Shelf Go.Sort

/-- Codes that answers an error. -/
def CoP (w : World) (e0 : Int) (e : Ending) (w' : World) : Prop := e = .returned (.tuple #[.slice none 0 0, .int .i64 e0]) ∧ Below w.heap.size w w'
set_option maxHeartbeats 1000000 in
theorem codes_w (A : Option Addr) (n c : Nat) (w : World) (e0 : Int) (h0 : e0 ≠ 0) (hW : Calls Tryz.prog 93 #[.slice A n c] w fun e w' => e = .returned (.tuple #[.slice none 0 0, .int .i64 e0]) ∧ Below w.heap.size w w') :
    Calls Tryz.prog 50 #[.slice A n c] w (CoP w e0) := by
  have HC := Lib.hid hW; clear hW
  have t0 : (e0 == 0) = false := by simpa using h0
  clear h0
  go_enter Tryz.func50, Tryz.ntmps50
  go_wp2_with fail
  refine HC.out.mono ?_
  rintro e w1 ⟨rfl, b1⟩
  go_wp2
  go_ret2
  exact ⟨rfl, b1⟩
/-- What the words answer where there are none. -/
def woE (xs : List Int) : Int := if kchk xs ≠ 0 then kchk xs else if 16777216 < tkn (xs.map Int.toNat) then 8 else 0
theorem ns_nat (l : List Nat) : (ns l).map Int.toNat = l := by
  simp [ns, List.map_map, Function.comp_def]
theorem wordsOf_no (xs : List Int) (n : Nat) (hn : xs.length = n) (hn2 : n ≤ 9223372036854775807) (e0 : Int) (he : woE xs = e0) (h0 : e0 ≠ 0) (A : Option Addr) (c : Nat) (w : World) (h : RdV w w.heap.size A (zc xs)) :
    Calls Tryz.prog 93 #[.slice A n c] w fun e w' => e = .returned (.tuple #[.slice none 0 0, .int .i64 e0]) ∧ Below w.heap.size w w' := by
  unfold woE at he
  by_cases hk : kchk xs = 0
  · rw [if_neg (by omega)] at he
    obtain ⟨l, rfl, h64, h24⟩ := kchk_zero xs hk
    have e1 : (l.map (fun (x : Nat) => (x : Int))).map Int.toNat = l := ns_nat l
    rw [e1] at he
    by_cases hr : 16777216 < tkn l
    · rw [if_pos hr] at he
      subst he
      exact wordsOf_full l n (by simpa using hn) (by simp at hn; omega) h24 hr A c w h
    · rw [if_neg hr] at he; exact absurd he.symm h0
  · rw [if_pos hk] at he
    exact wordsOf_e xs n hn hn2 e0 he h0 A c w h
theorem woE_zero (xs : List Int) (h : woE xs = 0) : ∃ l : List Nat, xs = ns l ∧ l.length ≤ 64 ∧ (∀ x ∈ l, x ≤ 24) ∧ tkn l ≤ 16777216 := by
  unfold woE at h
  by_cases hk : kchk xs = 0
  · rw [if_neg (by omega)] at h
    obtain ⟨l, rfl, h64, h24⟩ := kchk_zero xs hk
    have e1 : (l.map (fun (x : Nat) => (x : Int))).map Int.toNat = l := ns_nat l
    rw [e1] at h
    refine ⟨l, rfl, h64, h24, ?_⟩
    by_cases hr : 16777216 < tkn l
    · rw [if_pos hr] at h; omega
    · omega
  · rw [if_pos hk] at h; exact absurd h hk
theorem woE_cases (xs : List Int) : woE xs = 0 ∨ woE xs = 2 ∨ woE xs = 3 ∨ woE xs = 8 := by
  have hk : kchk xs = 0 ∨ kchk xs = 2 ∨ kchk xs = 3 := by
    unfold kchk
    split
    · simp
    · have : ∀ l : List Int, eachE (rg 24) l = 0 ∨ eachE (rg 24) l = 3 := by
        intro l
        induction l with
        | nil => simp [eachE]
        | cons x t ih =>
          unfold eachE
          split
          · exact ih
          · exact rg_or 24 x
      rcases this xs with h | h <;> simp [h]
  unfold woE
  split
  · omega
  · split <;> simp
/-- Codes begin with no other one. -/
theorem codes_apart (l : List Nat) (h24 : ∀ w ∈ l, w ≤ 24) (hr : tkn l ≤ 16777216) : apart (codes l) := by
  have h := words_ok l h24
  unfold apart codes
  rw [List.pairwise_filter, List.pairwise_map]
  have nd : (List.range l.length).Pairwise (· ≠ ·) := List.nodup_range
  refine List.Pairwise.imp_of_mem ?_ nd
  intro s t hs ht hne h1 h2
  have key : ∀ s, s ∈ List.range l.length → (!(codOf (words l) s).isEmpty) = true → ∃ x ∈ words l, x.1 = s ∧ codOf (words l) s = code x := by
    intro s hs hc
    have hsl := List.mem_range.1 hs
    have e : l[s]? = some l[s] := List.getElem?_eq_getElem hsl
    by_cases h0 : l[s] = 0
    · rw [codOf_none h (fun w hw => by rw [e] at hw; cases hw; exact h0)] at hc
      simp at hc
    · obtain ⟨n, hn⟩ := h.has s _ e h0
      exact ⟨_, hn, rfl, codOf_mem h hn⟩
  obtain ⟨x, hx, hx1, hx2⟩ := key s hs h1
  obtain ⟨y, hy, hy1, hy2⟩ := key t ht h2
  rw [hx2, hy2]
  exact words_row h hr hx hy (fun e => hne (by rw [← hx1, ← hy1, e]))
/-- Numbers, newly laid. -/
theorem rdv_row (w : World) (vs : List Value) (T : TypeId) : RdV (w.alloc (.cells vs.toArray T)) (w.alloc (.cells vs.toArray T)).heap.size (some ⟨w.heap.size, 0, none⟩) vs := by
  refine .inr ⟨w.heap.size, 0, rfl, by simp, fun i v hi => ?_⟩
  rw [cell_at (World.alloc_heap_new w (.cells vs.toArray T)), Nat.zero_add]
  simpa using hi
theorem rd_row1 (w : World) (x : Nat) : Rd (w.alloc (.cells #[.int .u8 (x : Int)] 5)) (w.alloc (.cells #[.int .u8 (x : Int)] 5)).heap.size (some ⟨w.heap.size, 0, none⟩) [x] := rd_lit1 w x

theorem kb_codes : codes [2, 0, 1, 3, 3] = [[true, false], [], [false], [true, true, false], [true, true, true]] := by decide
theorem kb_tkn : tkn [2, 0, 1, 3, 3] = 16777216 := by decide
theorem kb_pack1 : pack [false, true, true, false] = [96] := by decide
theorem kb_pack2 : pack [true] = [128] := by decide
theorem kb_sgn1 : sgA 1 (sgn ([false, true, true, false].drop 1) (words [2, 0, 1, 3, 3])) = (3, 4, 0) := by decide
theorem kb_sgn2 : sgA 0 (sgn ([true].drop 0) (words [2])) = (0, 0, 5) := by decide
theorem kb_full : woE [1, 1, 1] = 8 := by decide
theorem kb_p0 : pack [true, false] = [128] := by decide
theorem kb_p2 : pack [false] = [0] := by decide
theorem kb_p4 : pack [true, true, true] = [224] := by decide
end
end Go.Proofs.YtndiocehkdbjkaaGreat
