/- The errors of the numbers of a list, one by one; and what kraft.Check and Room answer, for whatever list they are handed. -/
import Derived.Test.YthfjfkbolfnkkaaFLib
import Derived.Test.YthfjfkbolfnkkaaKP5
namespace Go.Proofs.Ythfjfkbolfnkkaa
set_option maxRecDepth 100000
set_option linter.unusedVariables false
open Go.RowKit Go.Shelf

/-- Cells of numbers with signs. -/
def zc (xs : List Int) : List Value := xs.map (Value.int .i64)
theorem zc_length (xs : List Int) : (zc xs).length = xs.length := by simp [zc]
theorem zc_get (xs : List Int) (i : Nat) (h : i < xs.length) : (zc xs)[i]? = some (.int .i64 (xs[i]?.getD 0)) := by
  simp [zc, List.getElem?_map, List.getElem?_eq_getElem h]
theorem zc_append (a b : List Int) : zc (a ++ b) = zc a ++ zc b := by simp [zc]
theorem zc_one (xs : List Int) : ∀ u ∈ zc xs, u.oneCell' = true := by
  intro u hu
  simp only [zc, List.mem_map] at hu
  obtain ⟨x, _, rfl⟩ := hu
  rfl
/-- The first error. -/
def eachE {α : Type} (f : α → Int) : List α → Int
  | [] => 0
  | x :: t => if f x = 0 then eachE f t else f x
theorem eachE_at {α : Type} [Inhabited α] (f : α → Int) : ∀ (l : List α) (i : Nat), i < l.length → (∀ j, j < i → f (l[j]?.getD default) = 0) → f (l[i]?.getD default) ≠ 0 → eachE f l = f (l[i]?.getD default)
  | [], i, h, _, _ => by simp at h
  | x :: t, 0, _, _, h => by simp at h; simp [eachE, h]
  | x :: t, i + 1, h, h0, h1 => by
    have := h0 0 (by omega)
    simp at this
    unfold eachE
    rw [if_pos this]
    simpa using eachE_at f t i (by simpa using h) (fun j hj => by have := h0 (j + 1) (by omega); simpa using this) (by simpa using h1)
theorem eachE_zero {α : Type} [Inhabited α] (f : α → Int) : ∀ l : List α, eachE f l = 0 ↔ ∀ x ∈ l, f x = 0
  | [] => by simp [eachE]
  | x :: t => by
    unfold eachE
    by_cases h : f x = 0
    · rw [if_pos h, eachE_zero f t]; simp [h]
    · rw [if_neg h]; simp [h]
theorem eachE_all {α : Type} [Inhabited α] (f : α → Int) (l : List α) (h : ∀ j, j < l.length → f (l[j]?.getD default) = 0) : eachE f l = 0 := by
  rw [eachE_zero]
  intro x hx
  obtain ⟨j, hj, rfl⟩ := List.getElem_of_mem hx
  have := h j hj
  rwa [List.getElem?_eq_getElem hj] at this

theorem ret_i64 {a b : Int} (h : a = b) : Ending.returned (.int .i64 a) = .returned (.int .i64 b) := by rw [h]
/-- At each round's head: the first i have none. -/
def EchRel (f : Int → Int) (xs : List Int) (w : World) (p : Value) (wr : World) : Prop :=
  ∃ i : Nat, i ≤ xs.length ∧ p = .int .i64 (i : Int) ∧ (∀ j, j < i → f (xs[j]?.getD default) = 0) ∧ Below w.heap.size w wr

set_option maxHeartbeats 1000000 in
theorem each_int (g : Nat) (cb : Array Value) (f : Int → Int) (xs : List Int) (n : Nat) (hn : xs.length = n) (hn2 : n ≤ 9223372036854775807) (A : Option Addr) (c : Nat) (w : World) (h : RdV w w.heap.size A (zc xs))
    (eg : ∀ args w, (callFunc g args).run Try.prog w = .ok (.enter g args) w)
    (hg : ∀ (x : Int) (V : World), Below w.heap.size w V → Calls Try.prog g (#[.int .i64 x] ++ cb) V fun e w' => e = .returned (.int .i64 (f x)) ∧ Below V.heap.size V w') :
    Calls Try.prog 56 #[.slice A n c, .func (.func g) #[] cb] w fun e w' => e = .returned (.int .i64 (eachE f xs)) ∧ Below w.heap.size w w' := by
  have HR := Lib.hid h; clear h
  have HN := Lib.hid hn; clear hn
  have HG := Lib.hid hg; clear hg
  go_enter Try.func56, Try.ntmps56
  go_wp2
  go_loopw [10] (fun p wr => EchRel f xs w p wr) (fun p _ => n - (intOf p).toNat)
  case atStart => exact ⟨0, Nat.zero_le _, rfl, fun j hj => absurd hj (Nat.not_lt_zero _), Below.refl _ _⟩
  case round =>
    obtain ⟨i, hi, rfl, ht, hbel⟩ := hrel
    rw [HN.out] at hi
    by_cases hlt : i < n
    · have hin : i < xs.length := by rw [HN.out]; exact hlt
      have hR := HR.out.below hbel hbel.size
      obtain ⟨b, off, rfl, hb, hc⟩ := hR.at_ (zc_get xs i hin)
      have hat := eachE_at f xs i hin ht
      have HT := Lib.hid ht; clear ht
      obtain ⟨x, HED⟩ : ∃ x, Hid (xs[i]?.getD default = x) := ⟨_, rfl⟩
      rw [show xs[i]?.getD 0 = x from HED.out] at hc
      rw [HED.out] at hat
      have HC := Lib.hid (HG.out x wr hbel)
      have HB := Lib.hid hbel; clear hbel hR
      by_cases hf : f x = 0
      · have HF := Lib.hid hf
        rw [hf] at HC
        clear hf hat
        go_wp2_with fail
        refine HC.out.mono ?_
        rintro e w1 ⟨rfl, b1⟩
        have HB1 := Lib.hid b1; clear b1
        go_wp2
        go_roundw
        case rel => exact ⟨i + 1, by rw [HN.out]; omega, by go_num, fun j hj => by
          rcases Nat.lt_or_ge j i with h | h
          · exact HT.out j h
          · obtain rfl : j = i := by omega
            rw [HED.out]; exact HF.out, HB.out.trans (HB1.out.mono HB.out.size)⟩
        case measure => simp [intOf]; omega
      · have HE := Lib.hid (hat hf)
        have t0 : (f x == 0) = false := by simpa using hf
        clear hat
        generalize f x = y at *
        go_wp2_with fail
        refine HC.out.mono ?_
        rintro e w1 ⟨rfl, b1⟩
        have HB1 := Lib.hid b1; clear b1
        go_wp2
        go_ret
        exact ⟨ret_i64 HE.out.symm, HB.out.trans (HB1.out.mono HB.out.size)⟩
    · have HT : Hid (eachE f xs = 0) := eachE_all f xs (fun j hj => ht j (by rw [HN.out] at hj; omega))
      clear ht
      have HB := Lib.hid hbel; clear hbel
      go_wp2
      go_ret
      exact ⟨ret_i64 HT.out.symm, HB.out⟩

/-- What is asked of one number: is it from 0 to m? -/
def rg (m x : Int) : Int := if x < 0 ∨ m < x then 3 else 0
theorem rg_eq (m x : Int) : rgE 0 [decide (0 ≤ x), decide (x ≤ m)] = rg m x := by
  unfold rgE rg
  by_cases h1 : x < 0
  · have : decide (0 ≤ x) = false := by simp; omega
    rw [this, if_pos (by simp), if_pos (.inl h1)]
  · have e1 : decide (0 ≤ x) = true := by simp; omega
    by_cases h2 : m < x
    · have : decide (x ≤ m) = false := by simp; omega
      rw [e1, this, if_pos (by simp), if_pos (.inr h2)]
    · have : decide (x ≤ m) = true := by simp; omega
      rw [e1, this, if_neg (by simp), if_neg (by omega)]
theorem rg_zero (m x : Int) : rg m x = 0 ↔ 0 ≤ x ∧ x ≤ m := by unfold rg; split <;> omega
theorem rg_or (m x : Int) : rg m x = 0 ∨ rg m x = 3 := by unfold rg; split <;> simp
set_option maxHeartbeats 400000 in
theorem checkWidth (x : Int) (w : World) : Calls Try.prog 57 #[.int .i64 x] w fun e w' => e = .returned (.int .i64 (rg 24 x)) ∧ Below w.heap.size w w' := by
  have HR := Lib.hid (range2 0 (decide (0 ≤ x)) (decide (x ≤ 24)) _ (rg_eq 24 x))
  generalize rg 24 x = r at *
  go_enter Try.func57, Try.ntmps57
  go_wp2_with fail
  refine (HR.out _ _ rfl).mono ?_
  rintro e w1 ⟨rfl, B1⟩
  go_wp2
  go_ret
  exact ⟨rfl, B1⟩
theorem entersCheck1 : ∀ args w, (callFunc 57 args).run Try.prog w = .ok (.enter 57 args) w := enters_of Try.func57 (by kernel_rfl) rfl

/-- What kraft.Check answers. -/
def kchk (xs : List Int) : Int := if 64 < xs.length then 2 else eachE (rg 24) xs
set_option maxHeartbeats 400000 in
theorem kcheck_any (xs : List Int) (n : Nat) (hn : xs.length = n) (hn2 : n ≤ 9223372036854775807) (A : Option Addr) (c : Nat) (w : World) (h : RdV w w.heap.size A (zc xs)) :
    Calls Try.prog 22 #[.slice A n c] w fun e w' => e = .returned (.int .i64 (kchk xs)) ∧ Below w.heap.size w w' := by
  unfold kchk
  rw [hn]
  by_cases h64 : 64 < n
  · rw [if_pos h64]
    go_enter Try.func22, Try.ntmps22
    go_wp2
    go_ret
    exact ⟨rfl, Below.refl _ _⟩
  · rw [if_neg h64]
    have HC := Lib.hid (each_int 57 #[] (rg 24) xs n hn hn2 A c w h entersCheck1 (fun x V _ => checkWidth x V))
    generalize eachE (rg 24) xs = r at *
    clear hn h
    go_enter Try.func22, Try.ntmps22
    go_wp2_with fail
    refine HC.out.mono ?_
    rintro e w1 ⟨rfl, B1⟩
    go_wp2
    go_ret
    exact ⟨rfl, B1⟩

/-- Numbers that are right are lengths. -/
theorem kchk_zero (xs : List Int) (h : kchk xs = 0) : ∃ l : List Nat, xs = l.map (fun (x : Nat) => (x : Int)) ∧ l.length ≤ 64 ∧ ∀ x ∈ l, x ≤ 24 := by
  unfold kchk at h
  by_cases h64 : 64 < xs.length
  · rw [if_pos h64] at h; omega
  · rw [if_neg h64, eachE_zero] at h
    refine ⟨xs.map Int.toNat, ?_, by simp; omega, fun x hx => ?_⟩
    · rw [List.map_map]
      conv => lhs; rw [← List.map_id xs]
      refine List.map_congr_left fun x hx => ?_
      have := (rg_zero 24 x).1 (h x hx)
      simp; omega
    · obtain ⟨z, hz, rfl⟩ := List.mem_map.1 hx
      have := (rg_zero 24 z).1 (h z hz)
      omega
theorem kchk_ok (l : List Nat) (h64 : l.length ≤ 64) (h24 : ∀ x ∈ l, x ≤ 24) : kchk (l.map (fun (x : Nat) => (x : Int))) = 0 := by
  unfold kchk
  rw [if_neg (by simp; omega), eachE_zero]
  intro x hx
  obtain ⟨z, hz, rfl⟩ := List.mem_map.1 hx
  have := h24 z hz
  exact (rg_zero 24 _).2 ⟨by omega, by omega⟩

/-- At each round's head: the room that the first i leave. -/
def RoomRel (l : List Nat) (w : World) (v p : Value) (wr : World) : Prop :=
  ∃ i : Nat, i ≤ l.length ∧ p = .int .i64 (i : Int) ∧ v = .int .i64 (16777216 - (tkn (l.take i) : Int)) ∧ Below w.heap.size w wr
theorem tkn_take (l : List Nat) (i : Nat) (h : i < l.length) : tkn (l.take (i + 1)) = tkn (l.take i) + tk (l[i]?.getD 0) := by
  rw [take_snoc l i h, tkn_append]; simp [tkn]
theorem tkn_bd : ∀ l : List Nat, tkn l ≤ l.length * 8388608
  | [] => by simp [tkn]
  | x :: t => by have := tkn_bd t; have := tk_le x; simp [tkn]; omega
def ns (l : List Nat) : List Int := l.map (fun (x : Nat) => (x : Int))
theorem ns_length (l : List Nat) : (ns l).length = l.length := by simp [ns]
theorem ns_get (l : List Nat) (i : Nat) (h : i < l.length) : (zc (ns l))[i]? = some (.int .i64 ((l[i]?.getD 0 : Nat) : Int)) := by
  simp [zc, ns, List.getElem?_map, List.getElem?_eq_getElem h]
theorem at_mem (l : List Nat) (i : Nat) (h : i < l.length) : l[i]?.getD 0 ∈ l := by rw [List.getElem?_eq_getElem h]; exact List.getElem_mem h

set_option maxHeartbeats 1000000 in
theorem room_ok (l : List Nat) (n : Nat) (hn : l.length = n) (h64 : n ≤ 64) (h24 : ∀ x ∈ l, x ≤ 24) (A : Option Addr) (c : Nat) (w : World) (h : RdV w w.heap.size A (zc (ns l))) :
    Calls Try.prog 12 #[.slice A n c] w fun e w' => e = .returned (.tuple #[.int .i64 (16777216 - (tkn l : Int)), .int .i64 0]) ∧ Below w.heap.size w w' := by
  have HC0 := kcheck_any (ns l) n (by rw [ns_length]; exact hn) (by omega) A c w h
  rw [show kchk (ns l) = 0 from kchk_ok l (by omega) h24] at HC0
  have HC := Lib.hid HC0; clear HC0
  have HR := Lib.hid h; clear h
  have HN := Lib.hid hn; clear hn
  have H24 := Lib.hid h24; clear h24
  go_enter Try.func12, Try.ntmps12
  go_wp2_with fail
  refine HC.out.mono ?_
  rintro e w1 ⟨rfl, b1⟩
  have HB1 := Lib.hid b1; clear b1
  go_wp2
  go_loopw [5, 15] (fun v p wr => RoomRel l w v p wr) (fun _ p _ => n - (intOf p).toNat)
  case atStart => exact ⟨0, Nat.zero_le _, rfl, rfl, HB1.out⟩
  case round =>
    obtain ⟨i, hi, rfl, rfl, hbel⟩ := hrel
    rw [HN.out] at hi
    have hbd := tkn_bd (l.take i)
    have hti : (l.take i).length ≤ 64 := by rw [List.length_take]; omega
    by_cases hlt : i < n
    · have hin : i < l.length := by rw [HN.out]; exact hlt
      have hR := HR.out.below hbel hbel.size
      obtain ⟨b, off, rfl, hb, hc⟩ := hR.at_ (ns_get l i hin)
      have htk := tkn_take l i hin
      have hx24 := H24.out _ (at_mem l i hin)
      have HB := Lib.hid hbel; clear hbel hR
      have hT : tkn (l.take i) ≤ 536870912 := by omega
      clear hbd hti
      generalize tkn (l.take i) = T at *
      generalize l[i]?.getD 0 = x at *
      by_cases hx : x = 0
      · subst hx
        have HT := Lib.hid htk; clear htk
        go_wp2
        go_roundw
        case rel => exact ⟨i + 1, by rw [HN.out]; omega, by go_num, by rw [HT.out]; rfl, HB.out⟩
        case measure => simp [intOf]; omega
      · have hp : (2 : Nat) ^ (24 - x) ≤ 8388608 := by have := tk_le x; unfold tk at this; rw [if_neg hx] at this; exact this
        have htk' : tkn (l.take (i + 1)) = T + 2 ^ (24 - x) := by rw [htk]; unfold tk; rw [if_neg hx]
        obtain ⟨q, hq⟩ : ∃ q : Nat, 2 ^ (24 - x) = q := ⟨_, rfl⟩
        have hq2 : (2 : Int) ^ (24 - x) = (q : Int) := by rw [← hq]; simp
        rw [hq] at hp htk'
        have HT := Lib.hid htk'; clear htk htk'
        have HP : Hid ((24 - (x : Int)).toNat = 24 - x) := by show _ = _; omega
        have hx0 : 0 < x := by omega
        have t0 : decide ((0 : Int) < (x : Int)) = true := by simp; omega
        have e2 : (2 : Int) ^ (24 - (x : Int)).toNat = (q : Int) := by rw [HP.out]; exact hq2
        have HQ2 := Lib.hid hq2
        clear hq hq2 hx
        go_wp2
        go_roundw
        case rel => exact ⟨i + 1, by rw [HN.out]; omega, by go_num, by rw [HT.out, HQ2.out]; congr 1; rw [IntWalk.wrap64_in (q : Int) (by omega), IntWalk.wrap64_in _ (by omega)]; omega, HB.out⟩
        case measure => simp [intOf]; omega
    · have HT : Hid (tkn (l.take i) = tkn l) := by show _ = _; rw [List.take_of_length_le (by rw [HN.out]; omega)]
      have HB := Lib.hid hbel; clear hbel hbd hti
      go_wp2
      go_ret2
      exact ⟨by rw [HT.out]; rfl, HB.out⟩
set_option maxHeartbeats 400000 in
theorem room_e (xs : List Int) (n : Nat) (hn : xs.length = n) (hn2 : n ≤ 9223372036854775807) (r : Int) (hr : kchk xs = r) (h0 : r ≠ 0) (A : Option Addr) (c : Nat) (w : World) (h : RdV w w.heap.size A (zc xs)) :
    Calls Try.prog 12 #[.slice A n c] w fun e w' => e = .returned (.tuple #[.int .i64 0, .int .i64 r]) ∧ Below w.heap.size w w' := by
  have HC0 := kcheck_any xs n hn hn2 A c w h
  rw [hr] at HC0
  have HC := Lib.hid HC0; clear HC0 h hn hr
  have t0 : (r == 0) = false := by simpa using h0
  clear h0
  go_enter Try.func12, Try.ntmps12
  go_wp2_with fail
  refine HC.out.mono ?_
  rintro e w1 ⟨rfl, b1⟩
  go_wp2
  go_ret2
  exact ⟨rfl, b1⟩
end Go.Proofs.Ythfjfkbolfnkkaa
