/- Texts of this proof, one behind the other; each fact names its conditions. -/
import Derived.Test.YtbddcokjkdoaaaaGreatSN4
import Derived.Test.YtbddcokjkdoaaaaGreatSN5
import Derived.Test.YtbddcokjkdoaaaaGreatSN6
import Derived.WalkLawsBesides
import Derived.Test.YtbddcokjkdoaaaaGreatSN2
namespace Go.Proofs.YtbddcokjkdoaaaaGreat
section
set_option maxRecDepth 100000
set_option linter.unusedVariables false
open Go.RowKit Go.Shelf
theorem cell_at {w : World} {W : Nat} {t : TypeId} {cs : Array Value} (h : w.heap[W]? = some (.cells cs t (0, 0))) (i : Nat) : w.cell? ⟨W, i, none⟩ = cs[i]? := by simp [World.cell?, h]
theorem frz_at {w : World} {W : Nat} {t : TypeId} {cs : Array Value} (h : w.heap[W]? = some (.cells cs t (0, 0))) (i : Nat) : w.frozen? ⟨W, i, none⟩ = false := by simp [World.frozen?, h]
def zc (xs : List Int) : List Value := xs.map (Value.int .i64)
theorem zc_length (xs : List Int) : (zc xs).length = xs.length := by simp [zc]
theorem zc_get (xs : List Int) (i : Nat) (h : i < xs.length) : (zc xs)[i]? = some (.int .i64 (xs[i]?.getD 0)) := by
  simp [zc, List.getElem?_map, List.getElem?_eq_getElem h]
theorem zc_append (a b : List Int) : zc (a ++ b) = zc a ++ zc b := by simp [zc]
theorem zc_one (xs : List Int) : ∀ u ∈ zc xs, u.oneCell' = true := by
  intro u hu
  simp only [zc, List.mem_map] at hu
  obtain ⟨x, _, rfl⟩ := hu
  rfl
theorem ns_get (l : List Nat) (i : Nat) (h : i < l.length) : (zc (ns l))[i]? = some (.int .i64 ((l[i]?.getD 0 : Nat) : Int)) := by
  simp [zc, ns, List.getElem?_map, List.getElem?_eq_getElem h]
theorem at_mem (l : List Nat) (i : Nat) (h : i < l.length) : l[i]?.getD 0 ∈ l := by rw [List.getElem?_eq_getElem h]; exact List.getElem_mem h
theorem ret_i64 {a b : Int} (h : a = b) : Ending.returned (.int .i64 a) = .returned (.int .i64 b) := by rw [h]
theorem own_sliceT {w : World} {base k : Nat} {T : TypeId} {v : Value} {n : Nat} {xs : List Value} (h : w.ownsRow base T k v n xs) : ∃ A c, v = .slice A n c := by
  rcases h.2 with ⟨rfl, rfl⟩ | ⟨g, cap, cur, rfl, _⟩
  · exact ⟨none, 0, rfl⟩
  · exact ⟨_, cap, rfl⟩
theorem grown_low {w w' : World} {B : Nat} {v : Value} {n k : Nat} {T : TypeId} {xs : List Value} (h : w.grownBy w' v.ownBlock) (ho : w.ownsRow B T k v n xs) (hB : B ≤ w.heap.size) : Below B w w' := by
  refine ⟨h.os, h.tape, h.output, h.size, fun j hj => h.block j (by omega) ?_⟩
  intro e
  rcases ho.2 with ⟨rfl, _⟩ | ⟨g, cap, cur, rfl, hb, _⟩
  · simp [Value.ownBlock] at e
  · simp only [Value.ownBlock, Option.some.injEq] at e
    omega
theorem news_row (w : World) (vs : List Value) (T : TypeId) : ∀ j u, vs[j]? = some u → (w.alloc (.cells vs.toArray T)).cell? ((⟨w.heap.size, 0, none⟩ : Addr).add j) = some u := by
  intro j u hu
  have ha : (⟨w.heap.size, 0, none⟩ : Addr).add j = ⟨w.heap.size, 0 + j, none⟩ := by unfold Addr.add; split <;> simp_all
  rw [ha, cell_at (World.alloc_heap_new w (.cells vs.toArray T)), Nat.zero_add]
  simpa using hu
end
section
set_option maxRecDepth 100000
set_option linter.unusedVariables false
open Go.RowKit Go.Shelf
def eachS (f : Int → Int → Int) (nx : Int → Int) : Int → List Int → Int
  | _, [] => 0
  | v, x :: t => if f v x = 0 then eachS f nx (nx x) t else f v x
theorem eachS_cons (f : Int → Int → Int) (nx : Int → Int) (v x : Int) (t : List Int) : eachS f nx v (x :: t) = if f v x = 0 then eachS f nx (nx x) t else f v x := rfl
theorem drop_at (xs : List Int) (i : Nat) (h : i < xs.length) : xs.drop i = xs[i]?.getD 0 :: xs.drop (i + 1) := by
  rw [List.drop_eq_getElem_cons h, List.getElem?_eq_getElem h]; rfl
def EbxRel (f : Int → Int → Int) (nx : Int → Int) (Pv : Int → Prop) (B : Nat) (v0 : Int) (xs : List Int) (w : World) (p : Value) (wr : World) : Prop :=
  ∃ (i : Nat) (v : Int), i ≤ xs.length ∧ p = .int .i64 (i : Int) ∧ eachS f nx v0 xs = eachS f nx v (xs.drop i) ∧ Pv v ∧ wr.heap[B]? = some (.cells #[.int .i64 v] 3 (0, 0)) ∧ Below B w wr
set_option maxHeartbeats 1000000 in
theorem each_box (g : Nat) (B : Nat) (cb : Array Value) (f : Int → Int → Int) (nx : Int → Int) (Pv : Int → Prop) (hPn : ∀ v x, Pv v → f v x = 0 → Pv (nx x)) (xs : List Int) (n : Nat) (hn : xs.length = n) (hn2 : n ≤ 9223372036854775807) (A : Option Addr) (c : Nat) (v0 : Int) (hP0 : Pv v0) (w : World) (h : RdV w B A (zc xs)) (hb : w.heap[B]? = some (.cells #[.int .i64 v0] 3 (0, 0)))
    (eg : ∀ args w, (callFunc g args).run Tryz.prog w = .ok (.enter g args) w)
    (hg : ∀ (x v : Int) (V : World), Pv v → Below B w V → V.heap[B]? = some (.cells #[.int .i64 v] 3 (0, 0)) → Calls Tryz.prog g (#[.int .i64 x] ++ cb) V fun e w' => e = .returned (.int .i64 (f v x)) ∧ Below B V w' ∧ (f v x = 0 → w'.heap[B]? = some (.cells #[.int .i64 (nx x)] 3 (0, 0)))) :
    Calls Tryz.prog 176 #[.slice A n c, .func (.func g) #[] cb] w fun e w' => e = .returned (.int .i64 (eachS f nx v0 xs)) ∧ Below B w w' := by
  have HR := Lib.hid h; clear h
  have HN := Lib.hid hn; clear hn
  have HG := Lib.hid hg; clear hg
  have HB0 := Lib.hid hb; clear hb
  have HP0 := Lib.hid hP0; clear hP0
  have HPn := Lib.hid hPn; clear hPn
  go_enter Tryz.func176, Tryz.ntmps176
  go_wp2
  go_loopw [10] (fun p wr => EbxRel f nx Pv B v0 xs w p wr) (fun p _ => n - (intOf p).toNat)
  case atStart => exact ⟨0, v0, Nat.zero_le _, rfl, rfl, HP0.out, HB0.out, Below.refl _ _⟩
  case round =>
    obtain ⟨i, v, hi, rfl, ht, hpv, hbox, hbel⟩ := hrel
    rw [HN.out] at hi
    by_cases hlt : i < n
    · have hin : i < xs.length := by rw [HN.out]; exact hlt
      have hR := HR.out.below hbel (Nat.le_refl _)
      obtain ⟨b, off, rfl, hb, hc⟩ := hR.at_ (zc_get xs i hin)
      rw [drop_at xs i hin, eachS_cons] at ht
      generalize xs[i]?.getD 0 = x at *
      have HC := Lib.hid (HG.out x v wr hpv hbel hbox)
      have HPV := Lib.hid (HPn.out v x hpv); clear hpv
      have HB := Lib.hid hbel; clear hbel hR hbox
      by_cases hf : f v x = 0
      · rw [if_pos hf] at ht
        have HT := Lib.hid ht
        rw [hf] at HC
        have HPV2 := Lib.hid (HPV.out hf)
        clear hf ht
        go_wp2_with fail
        refine HC.out.mono ?_
        rintro e w1 ⟨rfl, b1, k1⟩
        have HB1 := Lib.hid b1; have HK1 := Lib.hid (k1 (by simp)); clear b1 k1
        go_wp2
        go_roundw
        case rel => exact ⟨i + 1, nx x, by rw [HN.out]; omega, by go_num, HT.out, HPV2.out, HK1.out, HB.out.trans HB1.out⟩
        case measure => simp [intOf]; omega
      · rw [if_neg hf] at ht
        have HE := Lib.hid ht
        have t0 : (f v x == 0) = false := by simpa using hf
        clear ht
        generalize f v x = y at *
        go_wp2_with fail
        refine HC.out.mono ?_
        rintro e w1 ⟨rfl, b1, -⟩
        have HB1 := Lib.hid b1; clear b1
        go_wp2
        go_ret
        exact ⟨ret_i64 HE.out.symm, HB.out.trans HB1.out⟩
    · have HT : Hid (eachS f nx v0 xs = 0) := by
        show _ = _
        rw [ht, List.drop_of_length_le (by rw [HN.out]; omega)]; rfl
      clear ht hbox hpv
      have HB := Lib.hid hbel; clear hbel
      go_wp2
      go_ret
      exact ⟨ret_i64 HT.out.symm, HB.out⟩
def okN (n : Int) : Bool := decide (0 ≤ n ∧ n ≤ 1048576)
set_option maxHeartbeats 400000 in
theorem node_any (k : Int) (w : World) : Calls Tryz.prog 49 #[.int .i64 k] w fun e w' => e = .returned (.bool (okN k)) ∧ w = w' := by
  by_cases h1 : 0 ≤ k
  · by_cases h2 : k ≤ 1048576
    · have e : okN k = true := by unfold okN; simp; omega
      have t1 : decide ((0 : Int) ≤ k) = true := by simp; omega
      have t2 : decide (k ≤ 1048576) = true := by simp; omega
      rw [e]
      go_enter Tryz.func49, Tryz.ntmps49
      go_wp2
      go_ret
      exact ⟨rfl, rfl⟩
    · have e : okN k = false := by unfold okN; simp; omega
      have t1 : decide ((0 : Int) ≤ k) = true := by simp; omega
      have t2 : decide (k ≤ 1048576) = false := by simp; omega
      rw [e]
      go_enter Tryz.func49, Tryz.ntmps49
      go_wp2
      go_ret
      exact ⟨rfl, rfl⟩
  · have e : okN k = false := by unfold okN; simp; omega
    have t1 : decide ((0 : Int) ≤ k) = false := by simp; omega
    rw [e]
    go_enter Tryz.func49, Tryz.ntmps49
    go_wp2
    go_ret
    exact ⟨rfl, rfl⟩
theorem okN_nat (n : Nat) (h : n ≤ 1048576) : okN (n : Int) = true := by unfold okN; simp; omega
def ck1 (v x : Int) : Int := if okN x = false then 3 else if x ≤ v then 4 else 0
theorem ck1_eq (v x : Int) : ck1 v x = if x < 0 ∨ 1048576 < x then 3 else if x ≤ v then 4 else 0 := by
  unfold ck1
  by_cases h1 : x < 0 ∨ 1048576 < x
  · have : okN x = false := by unfold okN; simp; omega
    rw [if_pos this, if_pos h1]
  · have : okN x = true := by unfold okN; simp; omega
    rw [if_neg h1, this]; simp
theorem rck_each : ∀ (xs : List Int) (v : Int), eachS ck1 id v xs = rck v xs
  | [], _ => rfl
  | x :: t, v => by
    rw [eachS_cons, ck1_eq]
    unfold rck
    by_cases h1 : x < 0 ∨ 1048576 < x
    · rw [if_pos h1, if_pos h1, if_neg (by omega)]
    · rw [if_neg h1, if_neg h1]
      by_cases h2 : x ≤ v
      · rw [if_pos h2, if_pos h2, if_neg (by omega)]
      · rw [if_neg h2, if_neg h2, if_pos rfl]
        exact rck_each t x
def ckS (ok : Int → Bool) (st v x : Int) : Int := if ok x = false then 3 else if x < v + st then 4 else 0
def ckO (ok : Int → Bool) (v x : Int) : Int := if ok x = false then 3 else if x ≤ v then 4 else 0
theorem ckS_one (ok : Int → Bool) : ckS ok 1 = ckO ok := by
  funext v x
  unfold ckS ckO
  by_cases h1 : ok x = false
  · rw [if_pos h1, if_pos h1]
  · rw [if_neg h1, if_neg h1]
    by_cases h2 : x ≤ v
    · rw [if_pos h2, if_pos (by omega)]
    · rw [if_neg h2, if_neg (by omega)]
def Small (v : Int) : Prop := -1 ≤ v ∧ v ≤ 4611686018427387904
set_option maxHeartbeats 400000 in
theorem checkOne (g : Nat) (mc : Array Value) (ok : Int → Bool) (st x v : Int) (hst : 0 ≤ st ∧ st ≤ 1) (hv : Small v) (M B S : Nat) (w : World) (hM : w.heap[M]? = some (.cells #[.func (.func g) #[] mc] 84 (0, 0))) (hS : w.heap[S]? = some (.cells #[.int .i64 st] 3 (0, 0))) (hb : w.heap[B]? = some (.cells #[.int .i64 v] 3 (0, 0)))
    (eg : ∀ args w, (callFunc g args).run Tryz.prog w = .ok (.enter g args) w) (hg : Calls Tryz.prog g (#[.int .i64 x] ++ mc) w fun e w' => e = .returned (.bool (ok x)) ∧ w = w') :
    Calls Tryz.prog 177 (#[.int .i64 x] ++ #[.pointer (some ⟨M, 0, none⟩), .pointer (some ⟨B, 0, none⟩), .pointer (some ⟨S, 0, none⟩)]) w fun e w' => e = .returned (.int .i64 (ckS ok st v x)) ∧ Below B w w' ∧ (ckS ok st v x = 0 → w'.heap[B]? = some (.cells #[.int .i64 (id x)] 3 (0, 0))) := by
  show Calls Tryz.prog 177 #[.int .i64 x, .pointer (some ⟨M, 0, none⟩), .pointer (some ⟨B, 0, none⟩), .pointer (some ⟨S, 0, none⟩)] w _
  have HN := Lib.hid hg
  have hm : w.cell? ⟨M, 0, none⟩ = some (.func (.func g) #[] mc) := (cell_at hM _).trans rfl
  have hs : w.cell? ⟨S, 0, none⟩ = some (.int .i64 st) := (cell_at hS _).trans rfl
  have hc : w.cell? ⟨B, 0, none⟩ = some (.int .i64 v) := (cell_at hb _).trans rfl
  have hf := frz_at hb 0
  have HB := Lib.hid hb; clear hb hM hS hg
  have hw : wrap64 (v + st) = v + st := by obtain ⟨h1, h2⟩ := hv; unfold wrap64; omega
  unfold ckS
  clear hv
  by_cases h1 : ok x = false
  · rw [if_pos h1]
    rw [h1] at HN
    clear h1
    go_enter Tryz.func177, Tryz.ntmps177
    go_wp2_with fail
    refine HN.out.mono ?_
    rintro e w1 ⟨rfl, rfl⟩
    go_wp2
    go_ret
    exact ⟨rfl, Below.refl _ _, fun h => by cases h⟩
  · rw [if_neg h1]
    have h1' : ok x = true := by simpa using h1
    rw [h1'] at HN
    clear h1 h1'
    by_cases h2 : x < v + st
    · rw [if_pos h2]
      have t0 : decide (x < v + st) = true := by simpa using h2
      clear h2
      go_enter Tryz.func177, Tryz.ntmps177
      go_wp2_with fail
      refine HN.out.mono ?_
      rintro e w1 ⟨rfl, rfl⟩
      go_wp2
      go_ret
      exact ⟨rfl, Below.refl _ _, fun h => by cases h⟩
    · rw [if_neg h2]
      have t0 : decide (x < v + st) = false := by simpa using h2
      clear h2
      have HX : Hid ((w.setCell ⟨B, 0, none⟩ (.int .i64 x)).heap[B]? = some (.cells #[.int .i64 x] 3 (0, 0))) := by
        show _ = _
        rw [heap_set_same _ _ _ _ _ _ HB.out]; simp
      go_enter Tryz.func177, Tryz.ntmps177
      go_wp2_with fail
      refine HN.out.mono ?_
      rintro e w1 ⟨rfl, rfl⟩
      go_wp2
      go_ret
      exact ⟨rfl, (Below.refl _ _).setCell (p := ⟨B, 0, none⟩) (Nat.le_refl _) _, fun _ => HX.out⟩
theorem entersCheck1 : ∀ args w, (callFunc 177 args).run Tryz.prog w = .ok (.enter 177 args) w := enters_of Tryz.func177 (by kernel_rfl) rfl
theorem entersNode : ∀ args w, (callFunc 49 args).run Tryz.prog w = .ok (.enter 49 args) w := enters_of Tryz.func49 (by kernel_rfl) rfl
set_option maxHeartbeats 400000 in
/-- A list that rises by steps, of numbers that may stand. -/
theorem insteps_any (g : Nat) (mc : Array Value) (ok : Int → Bool) (hok : ∀ x, ok x = true → 0 ≤ x ∧ x ≤ 4611686018427387904) (st : Int) (hst : 0 ≤ st ∧ st ≤ 1) (xs : List Int) (n : Nat) (hn : xs.length = n) (hn2 : n ≤ 9223372036854775807) (A : Option Addr) (c : Nat) (w : World) (h : RdV w w.heap.size A (zc xs))
    (eg : ∀ args w, (callFunc g args).run Tryz.prog w = .ok (.enter g args) w) (hg : ∀ x V, Below w.heap.size w V → Calls Tryz.prog g (#[.int .i64 x] ++ mc) V fun e w' => e = .returned (.bool (ok x)) ∧ V = w') :
    Calls Tryz.prog 140 #[.slice A n c, .int .i64 st, .func (.func g) #[] mc] w fun e w' => e = .returned (.int .i64 (eachS (ckS ok st) id (-1) xs)) ∧ Below w.heap.size w w' := by
  obtain ⟨V0, hV0⟩ : ∃ V0, ((w.alloc (.cells #[.int .i64 st] 3)).alloc (.cells #[.func (.func g) #[] mc] 84)).alloc (.cells #[.int .i64 (-1)] 3) = V0 := ⟨_, rfl⟩
  have hs1 : (w.alloc (.cells #[.int .i64 st] 3)).heap.size = w.heap.size + 1 := World.size_alloc _ _
  have hs2 : ((w.alloc (.cells #[.int .i64 st] 3)).alloc (.cells #[.func (.func g) #[] mc] 84)).heap.size = w.heap.size + 1 + 1 := by rw [World.size_alloc, hs1]
  have hs : V0.heap.size = w.heap.size + 1 + 1 + 1 := by rw [← hV0, World.size_alloc, hs2]
  have hB0 : Below w.heap.size w V0 := hV0 ▸ (one_below w _).trans (((one_below _ _).mono (by omega)).trans ((one_below _ _).mono (by omega)))
  have hS0 : V0.heap[w.heap.size]? = some (.cells #[.int .i64 st] 3 (0, 0)) := by
    rw [← hV0, (one_below _ _).block _ (by omega), (one_below _ _).block _ (by omega)]; exact World.alloc_heap_new w _
  have hM0 : V0.heap[w.heap.size + 1]? = some (.cells #[.func (.func g) #[] mc] 84 (0, 0)) := by
    rw [← hV0, (one_below _ _).block _ (by omega), ← hs1]; exact World.alloc_heap_new _ _
  have hV : V0.heap[w.heap.size + 1 + 1]? = some (.cells #[.int .i64 (-1)] 3 (0, 0)) := by
    rw [← hV0, ← hs2]; exact World.alloc_heap_new _ _
  have HC : Hid (Calls Tryz.prog 176 #[.slice A n c, .func (.func 177) #[] #[.pointer (some ⟨w.heap.size + 1, 0, none⟩), .pointer (some ⟨w.heap.size + 1 + 1, 0, none⟩), .pointer (some ⟨w.heap.size, 0, none⟩)]] V0 fun e w' => e = .returned (.int .i64 (eachS (ckS ok st) id (-1) xs)) ∧ Below (w.heap.size + 1 + 1) V0 w') := by
    refine each_box 177 (w.heap.size + 1 + 1) #[.pointer (some ⟨w.heap.size + 1, 0, none⟩), .pointer (some ⟨w.heap.size + 1 + 1, 0, none⟩), .pointer (some ⟨w.heap.size, 0, none⟩)] (ckS ok st) id Small ?_ xs n hn hn2 A c (-1) ⟨by omega, by omega⟩ V0 ?_ hV entersCheck1 (fun x v V hpv hb hx => ?_)
    · intro v x _ h0
      have : ok x = true := by
        cases e : ok x
        · unfold ckS at h0; rw [if_pos e] at h0; cases h0
        · rfl
      have := hok x this
      exact ⟨by simp only [id]; omega, this.2⟩
    · rcases h with h | ⟨b, off, e, hb, hc⟩
      · exact .inl h
      · exact .inr ⟨b, off, e, by omega, fun i v hi => (hB0.cell (p := ⟨b, off + i, none⟩) hb).trans (hc i v hi)⟩
    · exact checkOne g mc ok st x v hst hpv (w.heap.size + 1) (w.heap.size + 1 + 1) w.heap.size V ((hb.block _ (by omega)).trans hM0) ((hb.block _ (by omega)).trans hS0) hx eg (hg x V (hB0.trans (hb.mono (by omega))))
  generalize eachS (ckS ok st) id (-1) xs = r at *
  have HB0 := Lib.hid hB0
  clear hn h hM0 hV hs hB0 hg hs1 hs2 hS0 hok hst
  go_enter Tryz.func140, Tryz.ntmps140
  go_wp2_with fail
  refine HC.out.mono ?_
  rintro e w1 ⟨rfl, B1⟩
  have HB1 := Lib.hid (HB0.out.trans (B1.mono (by omega))); clear B1
  go_wp2
  go_ret
  exact ⟨rfl, HB1.out⟩
set_option maxHeartbeats 400000 in
/-- A list that rises, of numbers that may stand. -/
theorem crising_any (g : Nat) (mc : Array Value) (ok : Int → Bool) (hok : ∀ x, ok x = true → 0 ≤ x ∧ x ≤ 4611686018427387904) (xs : List Int) (n : Nat) (hn : xs.length = n) (hn2 : n ≤ 9223372036854775807) (A : Option Addr) (c : Nat) (w : World) (h : RdV w w.heap.size A (zc xs))
    (eg : ∀ args w, (callFunc g args).run Tryz.prog w = .ok (.enter g args) w) (hg : ∀ x V, Below w.heap.size w V → Calls Tryz.prog g (#[.int .i64 x] ++ mc) V fun e w' => e = .returned (.bool (ok x)) ∧ V = w') :
    Calls Tryz.prog 97 #[.slice A n c, .func (.func g) #[] mc] w fun e w' => e = .returned (.int .i64 (eachS (ckO ok) id (-1) xs)) ∧ Below w.heap.size w w' := by
  have HC := Lib.hid (insteps_any g mc ok hok 1 (by omega) xs n hn hn2 A c w h eg hg)
  rw [ckS_one] at HC
  generalize eachS (ckO ok) id (-1) xs = r at *
  clear hn h hg hok
  go_enter Tryz.func97, Tryz.ntmps97
  go_wp2_with fail
  refine HC.out.mono ?_
  rintro e w1 ⟨rfl, B1⟩
  go_wp2
  go_ret
  exact ⟨rfl, B1⟩
set_option maxHeartbeats 400000 in
/-- A list that does not fall, of numbers that may stand. -/
theorem cfalls_any (g : Nat) (mc : Array Value) (ok : Int → Bool) (hok : ∀ x, ok x = true → 0 ≤ x ∧ x ≤ 4611686018427387904) (xs : List Int) (n : Nat) (hn : xs.length = n) (hn2 : n ≤ 9223372036854775807) (A : Option Addr) (c : Nat) (w : World) (h : RdV w w.heap.size A (zc xs))
    (eg : ∀ args w, (callFunc g args).run Tryz.prog w = .ok (.enter g args) w) (hg : ∀ x V, Below w.heap.size w V → Calls Tryz.prog g (#[.int .i64 x] ++ mc) V fun e w' => e = .returned (.bool (ok x)) ∧ V = w') :
    Calls Tryz.prog 199 #[.slice A n c, .func (.func g) #[] mc] w fun e w' => e = .returned (.int .i64 (eachS (ckS ok 0) id (-1) xs)) ∧ Below w.heap.size w w' := by
  have HC := Lib.hid (insteps_any g mc ok hok 0 (by omega) xs n hn hn2 A c w h eg hg)
  generalize eachS (ckS ok 0) id (-1) xs = r at *
  clear hn h hg hok
  go_enter Tryz.func199, Tryz.ntmps199
  go_wp2_with fail
  refine HC.out.mono ?_
  rintro e w1 ⟨rfl, B1⟩
  go_wp2
  go_ret
  exact ⟨rfl, B1⟩
set_option maxHeartbeats 400000 in
theorem gcheck_any (xs : List Int) (n : Nat) (hn : xs.length = n) (hn2 : n ≤ 9223372036854775807) (A : Option Addr) (c : Nat) (w : World) (h : RdV w w.heap.size A (zc xs)) :
    Calls Tryz.prog 50 #[.slice A n c] w fun e w' => e = .returned (.int .i64 (rchk xs)) ∧ Below w.heap.size w w' := by
  unfold rchk
  rw [hn]
  by_cases h300 : 300 < n
  · rw [if_pos h300]
    go_enter Tryz.func50, Tryz.ntmps50
    go_wp2
    go_ret
    exact ⟨rfl, Below.refl _ _⟩
  · rw [if_neg h300]
    have HC0 := crising_any 49 #[] okN (fun x h => by unfold okN at h; simp at h; omega) xs n hn hn2 A c w h entersNode (fun x V _ => (node_any x V).mono fun _ _ q => q)
    rw [show eachS (ckO okN) id (-1) xs = rck (-1) xs from rck_each xs (-1)] at HC0
    have HC := Lib.hid HC0
    generalize rck (-1) xs = r at *
    clear hn h HC0
    go_enter Tryz.func50, Tryz.ntmps50
    go_wp2_with fail
    refine HC.out.mono ?_
    rintro e w1 ⟨rfl, B1⟩
    have HB1 := Lib.hid B1; clear B1
    go_wp2
    go_ret
    exact ⟨rfl, HB1.out⟩
end
section
section
set_option maxRecDepth 100000
set_option linter.unusedVariables false
open Go.RowKit Go.Shelf
def Bad (e : Ending) : Prop := e = .panicked [{ v := .iface 28 (.int .i64 1), recovered := false }]
set_option maxHeartbeats 400000 in
theorem insist_t (w : World) : Calls Tryz.prog 102 #[.bool true] w fun e w' => e = .returned (.tuple #[]) ∧ w = w' := by
  go_enter Tryz.func102, Tryz.ntmps102
  go_wp2
  go_end0
  exact ⟨rfl, rfl⟩
set_option maxHeartbeats 400000 in
theorem insist_f (w : World) : Calls Tryz.prog 102 #[.bool false] w fun e w' => Bad e ∧ w = w' := by
  go_enter Tryz.func102, Tryz.ntmps102
  go_wp2
  exact ⟨rfl, rfl, rfl⟩
set_option maxHeartbeats 400000 in
theorem ion_t (w : World) : Calls Tryz.prog 150 #[.int .i64 0] w fun e w' => e = .returned (.tuple #[]) ∧ w = w' := by
  go_enter Tryz.func150, Tryz.ntmps150
  go_wp2_with fail
  refine (insist_t _).mono ?_
  rintro e w' ⟨rfl, rfl⟩
  go_wp2
  go_end0
  exact ⟨rfl, rfl⟩
set_option maxHeartbeats 400000 in
theorem ion_f (err : Int) (h : err ≠ 0) (w : World) : Calls Tryz.prog 150 #[.int .i64 err] w fun e w' => Bad e ∧ w = w' := by
  have t0 : (err == 0) = false := by simpa using h
  clear h
  go_enter Tryz.func150, Tryz.ntmps150
  go_wp2_with fail
  refine (insist_f _).mono ?_
  rintro e w' ⟨rfl, rfl⟩
  go_wp2
  exact ⟨rfl, rfl, rfl⟩
end
section
set_option linter.unusedVariables false
abbrev Rn := Nat × Nat
def nums (p : Rn) : List Nat := List.range' p.1 p.2
def flatR (R : List Rn) : List Nat := R.flatMap nums
theorem flatR_nil : flatR [] = [] := rfl
theorem flatR_cons (p : Rn) (R : List Rn) : flatR (p :: R) = nums p ++ flatR R := by simp [flatR]
theorem flatR_append (a b : List Rn) : flatR (a ++ b) = flatR a ++ flatR b := by simp [flatR]
theorem flatR_snoc (a : List Rn) (p : Rn) : flatR (a ++ [p]) = flatR a ++ nums p := by rw [flatR_append, flatR_cons, flatR_nil, List.append_nil]
theorem nums_length (p : Rn) : (nums p).length = p.2 := by simp [nums]
theorem nums_mem (p : Rn) (x : Nat) : x ∈ nums p ↔ p.1 ≤ x ∧ x < p.1 + p.2 := by simp [nums, List.mem_range'_1]
def rs : List Nat → List Rn
  | [] => []
  | x :: t => match rs t with
    | (f, m) :: r => if f = x + 1 then (x, m + 1) :: r else (x, 1) :: (f, m) :: r
    | [] => [(x, 1)]
theorem rs_ne (x : Nat) (t : List Nat) : ∃ m r, rs (x :: t) = (x, m + 1) :: r := by
  unfold rs
  split
  · rename_i f m r e
    by_cases h : f = x + 1
    · rw [if_pos h]; exact ⟨_, _, rfl⟩
    · rw [if_neg h]; exact ⟨0, _, rfl⟩
  · exact ⟨0, _, rfl⟩
theorem rs_flat : ∀ l : List Nat, flatR (rs l) = l
  | [] => rfl
  | x :: t => by
    have ih := rs_flat t
    unfold rs
    split
    · rename_i f m r e
      rw [e] at ih
      by_cases h : f = x + 1
      · rw [if_pos h]
        subst h
        rw [flatR_cons] at ih ⊢
        have : nums (x, m + 1) = x :: nums (x + 1, m) := by simp [nums, List.range'_succ]
        rw [this, List.cons_append, ih]
      · rw [if_neg h, flatR_cons, ih]; simp [nums]
    · rename_i e
      rw [e] at ih
      rw [← ih]; simp [flatR, nums]
def m1 (l : List Nat) : Nat := ((rs l).head?.map (·.2)).getD 0
theorem rs_step : ∀ l : List Nat, l ≠ [] → rs l = (l[0]?.getD 0, m1 l) :: rs (l.drop (m1 l)) ∧ 1 ≤ m1 l ∧ m1 l ≤ l.length
  | [], h => absurd rfl h
  | x :: t, _ => by
    unfold m1
    rcases t with _ | ⟨y, t⟩
    · simp [rs]
    · have ih := rs_step (y :: t) (by simp)
      unfold m1 at ih
      have hx : rs (x :: y :: t) = match rs (y :: t) with
        | (f, m) :: r => if f = x + 1 then (x, m + 1) :: r else (x, 1) :: (f, m) :: r
        | [] => [(x, 1)] := rfl
      obtain ⟨m, r, e⟩ := rs_ne y t
      rw [e] at ih hx
      simp only [List.head?_cons, Option.map_some, Option.getD_some, List.getElem?_cons_zero, List.cons.injEq, true_and] at ih
      simp only at hx
      rw [hx]
      by_cases h : y = x + 1
      · rw [if_pos h]
        simp only [List.head?_cons, Option.map_some, Option.getD_some, List.getElem?_cons_zero, List.cons.injEq, true_and]
        refine ⟨?_, by omega, by have := ih.2.2; simp at this ⊢; omega⟩
        rw [List.drop_succ_cons]; exact ih.1
      · rw [if_neg h]
        simp only [List.head?_cons, Option.map_some, Option.getD_some, List.getElem?_cons_zero, List.cons.injEq, true_and, List.drop_succ_cons, List.drop_zero]
        exact ⟨e.symm, by omega, by simp⟩
theorem m1_at : ∀ l : List Nat, ∀ i, i < m1 l → l[i]?.getD 0 = l[0]?.getD 0 + i
  | [], i, h => by simp [m1, rs] at h
  | x :: t, 0, _ => by simp
  | x :: t, i + 1, h => by
    rcases t with _ | ⟨y, t⟩
    · simp [m1, rs] at h
    · obtain ⟨m, r, e⟩ := rs_ne y t
      have hx : rs (x :: y :: t) = match rs (y :: t) with
        | (f, m) :: r => if f = x + 1 then (x, m + 1) :: r else (x, 1) :: (f, m) :: r
        | [] => [(x, 1)] := rfl
      rw [e] at hx
      simp only at hx
      have hm : m1 (y :: t) = m + 1 := by unfold m1; rw [e]; rfl
      unfold m1 at h
      rw [hx] at h
      by_cases hy : y = x + 1
      · rw [if_pos hy] at h
        simp at h
        have := m1_at (y :: t) i (by omega)
        simp at this ⊢
        omega
      · rw [if_neg hy] at h
        simp at h
theorem m1_end : ∀ l : List Nat, m1 l < l.length → l[m1 l]?.getD 0 ≠ l[0]?.getD 0 + m1 l
  | [], h => by simp at h
  | x :: t, h => by
    rcases t with _ | ⟨y, t⟩
    · simp [m1, rs] at h
    · obtain ⟨m, r, e⟩ := rs_ne y t
      have hx : rs (x :: y :: t) = match rs (y :: t) with
        | (f, m) :: r => if f = x + 1 then (x, m + 1) :: r else (x, 1) :: (f, m) :: r
        | [] => [(x, 1)] := rfl
      rw [e] at hx
      simp only at hx
      have hm : m1 (y :: t) = m + 1 := by unfold m1; rw [e]; rfl
      have ih := m1_end (y :: t)
      by_cases hy : y = x + 1
      · rw [if_pos hy] at hx
        have h1 : m1 (x :: y :: t) = m + 2 := by unfold m1; rw [hx]; rfl
        rw [h1] at h ⊢
        rw [hm] at ih
        have := ih (by simp at h ⊢; omega)
        simp at this ⊢
        omega
      · rw [if_neg hy] at hx
        have h1 : m1 (x :: y :: t) = 1 := by unfold m1; rw [hx]; rfl
        rw [h1]
        simpa using hy
theorem m1_uniq (l : List Nat) (k : Nat) (h1 : 1 ≤ k) (hk : k ≤ l.length) (ha : ∀ i, i < k → l[i]?.getD 0 = l[0]?.getD 0 + i) (he : k < l.length → l[k]?.getD 0 ≠ l[0]?.getD 0 + k) : m1 l = k := by
  have hl : l ≠ [] := by rintro rfl; simp at hk; omega
  have h2 := (rs_step l hl).2
  rcases Nat.lt_trichotomy (m1 l) k with h | h | h
  · exact absurd (ha _ h) (m1_end l (by omega))
  · exact h
  · exact absurd (m1_at l k h) (he (by omega))
def Sep : Int → List Rn → Prop
  | _, [] => True
  | v, p :: t => v < (p.1 : Int) ∧ 1 ≤ p.2 ∧ Sep ((p.1 + p.2 : Nat) : Int) t
theorem sep_weak : ∀ (R : List Rn) (v u : Int), u ≤ v → Sep v R → Sep u R
  | [], _, _, _, _ => trivial
  | p :: t, v, u, h, ⟨h1, h2, h3⟩ => ⟨by omega, h2, h3⟩
theorem sep_filter (q : Rn → Bool) : ∀ (R : List Rn) (v : Int), Sep v R → Sep v (R.filter q)
  | [], _, _ => trivial
  | p :: t, v, ⟨h1, h2, h3⟩ => by
    rw [List.filter_cons]
    split
    · exact ⟨h1, h2, sep_filter q t _ h3⟩
    · exact sep_filter q t v (sep_weak t _ _ (by omega) h3)
theorem rs_sep : ∀ (l : List Nat) (v : Int), Ris v l → Sep v (rs l)
  | [], _, _ => trivial
  | x :: t, v, ⟨h1, h2, h3⟩ => by
    have ih := rs_sep t x h3
    unfold rs
    split
    · rename_i f m r e
      rw [e] at ih
      obtain ⟨i1, i2, i3⟩ := ih
      simp only at i1 i2 i3
      by_cases h : f = x + 1
      · rw [if_pos h]
        subst h
        exact ⟨h1, by simp, by rw [show x + (m + 1) = x + 1 + m by omega]; exact i3⟩
      · rw [if_neg h]
        exact ⟨h1, by simp, by simp only; omega, i2, i3⟩
    · exact ⟨h1, by simp, trivial⟩
def lng (k : Nat) (R : List Rn) : List Rn := R.filter (fun p => decide (k ≤ p.2))
def sht (k : Nat) (R : List Rn) : List Rn := R.filter (fun p => decide (p.2 < k))
theorem lng_snoc (k : Nat) (R : List Rn) (p : Rn) : lng k (R ++ [p]) = lng k R ++ (if k ≤ p.2 then [p] else []) := by
  unfold lng; rw [List.filter_append]; congr 1
  by_cases h : k ≤ p.2 <;> simp [h]
theorem sht_snoc (k : Nat) (R : List Rn) (p : Rn) : sht k (R ++ [p]) = sht k R ++ (if k ≤ p.2 then [] else [p]) := by
  unfold sht; rw [List.filter_append]; congr 1
  by_cases h : k ≤ p.2
  · rw [if_pos h]; simp; omega
  · rw [if_neg h]; simp; omega
theorem lng_sht (k : Nat) : ∀ R : List Rn, (flatR (lng k R) ++ flatR (sht k R)).Perm (flatR R)
  | [] => .refl _
  | p :: R => by
    have ih := lng_sht k R
    unfold lng sht at *
    rw [List.filter_cons, List.filter_cons]
    by_cases h : k ≤ p.2
    · rw [if_pos (by simpa using h), if_neg (by simp; omega), flatR_cons, flatR_cons, List.append_assoc]
      exact ih.append_left _
    · rw [if_neg (by simpa using h), if_pos (by simp; omega), flatR_cons, flatR_cons, ← List.append_assoc]
      exact ((List.perm_append_comm (l₁ := flatR _) (l₂ := nums p)).append_right _).trans (by rw [List.append_assoc]; exact ih.append_left _)
theorem flatR_sub (q : Rn → Bool) : ∀ R : List Rn, (flatR (R.filter q)).Sublist (flatR R)
  | [] => .slnil
  | p :: R => by
    rw [List.filter_cons]
    split
    · rw [flatR_cons, flatR_cons]; exact (flatR_sub q R).append_left _
    · rw [flatR_cons]; exact (flatR_sub q R).trans (List.sublist_append_right _ _)
theorem ris_pairwise : ∀ (l : List Nat) (v : Int), Ris v l ↔ (∀ x ∈ l, v < (x : Int) ∧ x ≤ 1048576) ∧ l.Pairwise (· < ·)
  | [], v => by simp [Ris]
  | x :: t, v => by
    unfold Ris
    rw [ris_pairwise t x, List.pairwise_cons]
    constructor
    · rintro ⟨h1, h2, h3, h4⟩
      refine ⟨fun y hy => ?_, fun y hy => by have := (h3 y hy).1; omega, h4⟩
      rcases List.mem_cons.1 hy with rfl | hy
      · exact ⟨h1, h2⟩
      · have := h3 y hy; omega
    · rintro ⟨h1, h2, h3⟩
      have hx := h1 x (by simp)
      exact ⟨hx.1, hx.2, fun y hy => ⟨by have := h2 y hy; omega, (h1 y (by simp [hy])).2⟩, h3⟩
theorem rising_sub {a l : List Nat} (h : a.Sublist l) (hl : Rising l) : Rising a := by
  obtain ⟨h1, h2⟩ := (ris_pairwise l (-1)).1 hl.2
  exact ⟨Nat.le_trans h.length_le hl.1, (ris_pairwise a (-1)).2 ⟨fun x hx => h1 x (h.subset hx), h2.sublist h⟩⟩
def nin (x : Nat) : List Nat → List Nat
  | [] => [x]
  | y :: t => if x ≤ y then x :: y :: t else y :: nin x t
def nso : List Nat → List Nat
  | [] => []
  | x :: t => nin x (nso t)
theorem nin_perm (x : Nat) : ∀ t, (nin x t).Perm (x :: t)
  | [] => .refl _
  | y :: t => by
    unfold nin
    split
    · exact .refl _
    · exact ((nin_perm x t).cons y).trans (.swap x y t)
theorem nso_perm : ∀ l, (nso l).Perm l
  | [] => .refl _
  | x :: t => (nin_perm x _).trans ((nso_perm t).cons x)
theorem nin_sorted (x : Nat) : ∀ t, t.Pairwise (· ≤ ·) → (nin x t).Pairwise (· ≤ ·)
  | [], _ => by simp [nin]
  | y :: t, h => by
    have h1 := List.pairwise_cons.1 h
    unfold nin
    by_cases hx : x ≤ y
    · rw [if_pos hx]
      refine List.pairwise_cons.2 ⟨fun z hz => ?_, h⟩
      rcases List.mem_cons.1 hz with rfl | hz
      · exact hx
      · exact Nat.le_trans hx (h1.1 z hz)
    · rw [if_neg hx]
      refine List.pairwise_cons.2 ⟨fun z hz => ?_, nin_sorted x t h1.2⟩
      rcases List.mem_cons.1 ((nin_perm x t).subset hz) with rfl | hz
      · omega
      · exact h1.1 z hz
theorem nso_sorted : ∀ l, (nso l).Pairwise (· ≤ ·)
  | [] => .nil
  | x :: t => nin_sorted x _ (nso_sorted t)
theorem sorted_uniq : ∀ (a b : List Nat), a.Perm b → a.Pairwise (· ≤ ·) → b.Pairwise (· ≤ ·) → a = b
  | [], b, h, _, _ => (List.nil_perm.1 h).symm
  | x :: t, [], h, _, _ => by have := h.length_eq; simp at this
  | x :: t, y :: s, h, h1, h2 => by
    have p1 := List.pairwise_cons.1 h1
    have p2 := List.pairwise_cons.1 h2
    have e : x = y := by
      have a1 : x ∈ y :: s := h.subset List.mem_cons_self
      have a2 : y ∈ x :: t := h.symm.subset List.mem_cons_self
      rcases List.mem_cons.1 a1 with e | m1
      · exact e
      · rcases List.mem_cons.1 a2 with e | m2
        · exact e.symm
        · have := p1.1 y m2; have := p2.1 x m1; omega
    subst e
    rw [sorted_uniq t s (List.perm_cons _ |>.1 h) p1.2 p2.2]
theorem nso_uniq {a b : List Nat} (h : a.Perm b) (hs : a.Pairwise (· ≤ ·)) : nso b = a := sorted_uniq _ _ ((nso_perm b).trans h.symm) (nso_sorted b) hs
def tw : List Nat → Bool
  | x :: y :: t => x == y || tw (y :: t)
  | _ => false
theorem tw_false : ∀ l : List Nat, l.Pairwise (· ≤ ·) → (tw l = false ↔ l.Pairwise (· < ·))
  | [], _ => by simp [tw]
  | [x], _ => by simp [tw]
  | x :: y :: t, h => by
    have h1 := List.pairwise_cons.1 h
    have ih := tw_false (y :: t) h1.2
    unfold tw
    rw [Bool.or_eq_false_iff, ih, List.pairwise_cons (a := x)]
    constructor
    · rintro ⟨a, b⟩
      have hxy : x < y := by have := h1.1 y (by simp); simp at a; omega
      refine ⟨fun z hz => ?_, b⟩
      rcases List.mem_cons.1 hz with rfl | hz
      · exact hxy
      · have := (List.pairwise_cons.1 b).1 z hz; omega
    · rintro ⟨a, b⟩
      have := a y (by simp)
      exact ⟨by simp; omega, b⟩
theorem tw_at : ∀ l : List Nat, tw l = true ↔ ∃ i, i + 1 < l.length ∧ l[i + 1]?.getD 0 = l[i]?.getD 0
  | [] => by simp [tw]
  | [x] => by simp [tw]
  | x :: y :: t => by
    have ih := tw_at (y :: t)
    unfold tw
    rw [Bool.or_eq_true, ih]
    constructor
    · rintro (h | ⟨i, h1, h2⟩)
      · exact ⟨0, by simp, by simp at h ⊢; omega⟩
      · exact ⟨i + 1, by simp at h1 ⊢; omega, by simpa using h2⟩
    · rintro ⟨i, h1, h2⟩
      rcases i with _ | i
      · left; simp at h2 ⊢; omega
      · right; exact ⟨i, by simp at h1 ⊢; omega, by simpa using h2⟩
def mg (R : List Rn) (rest : List Nat) : List Nat × Int :=
  let l := nso (flatR R ++ rest)
  if tw l = true then ([], 6) else if 300 < l.length then ([], 2) else (l, 0)
def rk : Int → List (Int × Int) → Int
  | _, [] => 0
  | v, p :: t => if p.1 < 0 ∨ 1048576 < p.1 ∨ p.2 < 1 ∨ 300 < p.2 ∨ 1048576 < p.1 + p.2 - 1 then 3 else if p.1 ≤ v then 4 else rk (p.1 + p.2) t
def rkchk (r : List (Int × Int)) : Int := if 300 < r.length then 2 else rk (-1) r
def rz (R : List Rn) : List (Int × Int) := R.map fun p => ((p.1 : Int), (p.2 : Int))
theorem rz_length (R : List Rn) : (rz R).length = R.length := by simp [rz]
def OkR (R : List Rn) : Prop := R.length ≤ 300 ∧ Sep (-1) R ∧ ∀ p ∈ R, p.2 ≤ 300 ∧ p.1 + p.2 ≤ 1048577
theorem rk_ok : ∀ (R : List Rn) (v : Int), Sep v R → (∀ p ∈ R, p.2 ≤ 300 ∧ p.1 + p.2 ≤ 1048577) → rk v (rz R) = 0
  | [], _, _, _ => rfl
  | p :: t, v, ⟨h1, h2, h3⟩, hb => by
    have hp := hb p (by simp)
    show rk v (((p.1 : Int), (p.2 : Int)) :: rz t) = 0
    unfold rk
    simp only
    rw [if_neg (by omega), if_neg (by omega)]
    have := rk_ok t _ h3 (fun q hq => hb q (by simp [hq]))
    rwa [show ((p.1 + p.2 : Nat) : Int) = (p.1 : Int) + (p.2 : Int) by omega] at this
theorem rkchk_ok (R : List Rn) (h : OkR R) : rkchk (rz R) = 0 := by
  unfold rkchk
  rw [if_neg (by rw [rz_length]; have := h.1; omega)]
  exact rk_ok R _ h.2.1 h.2.2
theorem rk_zero : ∀ (r : List (Int × Int)) (v : Int), rk v r = 0 → ∃ R, r = rz R ∧ Sep v R ∧ ∀ p ∈ R, p.2 ≤ 300 ∧ p.1 + p.2 ≤ 1048577
  | [], v, _ => ⟨[], rfl, trivial, by simp⟩
  | (f, m) :: t, v, h => by
    unfold rk at h
    simp only at h
    by_cases h1 : f < 0 ∨ 1048576 < f ∨ m < 1 ∨ 300 < m ∨ 1048576 < f + m - 1
    · rw [if_pos h1] at h; omega
    · rw [if_neg h1] at h
      by_cases h2 : f ≤ v
      · rw [if_pos h2] at h; omega
      · rw [if_neg h2] at h
        obtain ⟨R, rfl, a, b⟩ := rk_zero t _ h
        obtain ⟨x, rfl⟩ : ∃ n : Nat, f = (n : Int) := ⟨f.toNat, by omega⟩
        obtain ⟨y, rfl⟩ : ∃ n : Nat, m = (n : Int) := ⟨m.toNat, by omega⟩
        refine ⟨(x, y) :: R, rfl, ⟨by simp only; omega, by simp only; omega, ?_⟩, fun p hp => ?_⟩
        · rwa [show (((x, y).1 + (x, y).2 : Nat) : Int) = (x : Int) + (y : Int) from by simp]
        · rcases List.mem_cons.1 hp with rfl | hp
          · simp only; omega
          · exact b p hp
theorem rkchk_zero (r : List (Int × Int)) (h : rkchk r = 0) : ∃ R, r = rz R ∧ OkR R := by
  unfold rkchk at h
  by_cases h1 : 300 < r.length
  · rw [if_pos h1] at h; omega
  · rw [if_neg h1] at h
    obtain ⟨R, rfl, a, b⟩ := rk_zero r (-1) h
    exact ⟨R, rfl, by rw [rz_length] at h1; omega, a, b⟩
theorem flatR_len_split (k : Nat) (R : List Rn) : (flatR (lng k R)).length + (flatR (sht k R)).length = (flatR R).length := by
  rw [← (lng_sht k R).length_eq, List.length_append]
theorem flatR_mem (R : List Rn) (x : Nat) : x ∈ flatR R ↔ ∃ p ∈ R, p.1 ≤ x ∧ x < p.1 + p.2 := by
  unfold flatR
  rw [List.mem_flatMap]
  exact ⟨fun ⟨p, h1, h2⟩ => ⟨p, h1, (nums_mem p x).1 h2⟩, fun ⟨p, h1, h2⟩ => ⟨p, h1, (nums_mem p x).2 h2⟩⟩
theorem sep_pos : ∀ (R : List Rn) (v : Int), Sep v R → ∀ p ∈ R, 1 ≤ p.2
  | [], _, _ => by simp
  | q :: t, v, ⟨h1, h2, h3⟩ => fun p hp => by
    rcases List.mem_cons.1 hp with rfl | hp
    · exact h2
    · exact sep_pos t _ h3 p hp
theorem flatR_len_ge : ∀ R : List Rn, (∀ p ∈ R, 1 ≤ p.2) → R.length ≤ (flatR R).length
  | [], _ => by simp
  | p :: R, h => by
    have := flatR_len_ge R (fun q hq => h q (by simp [hq]))
    have := h p (by simp)
    rw [flatR_cons, List.length_append, nums_length, List.length_cons]; omega
theorem flatR_len_mem : ∀ (R : List Rn) (p : Rn), p ∈ R → p.2 ≤ (flatR R).length
  | [], p, h => by simp at h
  | q :: R, p, h => by
    rw [flatR_cons, List.length_append, nums_length]
    rcases List.mem_cons.1 h with rfl | h
    · omega
    · have := flatR_len_mem R p h; omega
theorem rs_okR (l : List Nat) (h : Rising l) : OkR (rs l) := by
  have hs := rs_sep l (-1) h.2
  have hf := rs_flat l
  have hp := sep_pos _ _ hs
  refine ⟨?_, hs, fun p hp' => ⟨?_, ?_⟩⟩
  · have := flatR_len_ge (rs l) hp; rw [hf] at this; have := h.1; omega
  · have := flatR_len_mem (rs l) p hp'; rw [hf] at this; have := h.1; omega
  · have h1 := hp p hp'
    have : p.1 + p.2 - 1 ∈ flatR (rs l) := (flatR_mem _ _).2 ⟨p, hp', by omega, by omega⟩
    rw [hf] at this
    have := (ris_le l _ h.2 _ this).2
    omega
theorem okR_filter (q : Rn → Bool) (R : List Rn) (h : OkR R) : OkR (R.filter q) :=
  ⟨Nat.le_trans (List.length_filter_le _ _) h.1, sep_filter q R _ h.2.1, fun p hp => h.2.2 p (List.mem_filter.1 hp).1⟩
theorem rising_lt {l : List Nat} (h : Rising l) : l.Pairwise (· < ·) := ((ris_pairwise l _).1 h.2).2
theorem mg_of {R : List Rn} {rest l : List Nat} (h : (flatR R ++ rest).Perm l) (hl : Rising l) : mg R rest = (l, 0) := by
  have hlt := rising_lt hl
  have hle : l.Pairwise (· ≤ ·) := hlt.imp (fun h => by omega)
  unfold mg
  rw [nso_uniq h.symm hle]
  simp only
  rw [if_neg (by rw [(tw_false l hle).2 hlt]; simp), if_neg (by have := hl.1; omega)]
theorem mg_zero {R : List Rn} {rest l : List Nat} (hR : OkR R) (hr : Rising rest) (h : mg R rest = (l, 0)) : Rising l ∧ (flatR R ++ rest).Perm l := by
  unfold mg at h
  simp only at h
  split at h
  · simp at h
  · split at h
    · simp at h
    · rename_i h1 h2
      cases h
      have hp := nso_perm (flatR R ++ rest)
      refine ⟨⟨by omega, (ris_pairwise _ _).2 ⟨fun x hx => ?_, (tw_false _ (nso_sorted _)).1 (by simpa using h1)⟩⟩, hp.symm⟩
      rcases List.mem_append.1 (hp.subset hx) with h | h
      · obtain ⟨p, hp, a, b⟩ := (flatR_mem R x).1 h
        have := (hR.2.2 p hp).2
        exact ⟨by omega, by omega⟩
      · exact ris_le rest _ hr.2 x h
theorem mg_split (k : Nat) (l : List Nat) (h : Rising l) : mg (lng k (rs l)) (flatR (sht k (rs l))) = (l, 0) :=
  mg_of (by have := lng_sht k (rs l); rwa [rs_flat] at this) h
theorem sht_rising (k : Nat) (l : List Nat) (h : Rising l) : Rising (flatR (sht k (rs l))) := rising_sub (by have := flatR_sub (fun p => decide (p.2 < k)) (rs l); rwa [rs_flat] at this) h
theorem mg_nil (R : List Rn) (hs : Sep (-1) R) : nso (flatR R ++ []) = flatR R := by
  rw [List.append_nil]
  refine nso_uniq (.refl _) ?_
  have key : ∀ (R : List Rn) (v : Int), Sep v R → (∀ x ∈ flatR R, v < (x : Int)) ∧ (flatR R).Pairwise (· < ·) := by
    intro R
    induction R with
    | nil => intro v _; simp [flatR]
    | cons p t ih =>
      rintro v ⟨h1, h2, h3⟩
      obtain ⟨i1, i2⟩ := ih _ h3
      rw [flatR_cons]
      refine ⟨fun x hx => ?_, List.pairwise_append.2 ⟨List.pairwise_lt_range', i2, fun x hx y hy => ?_⟩⟩
      · rcases List.mem_append.1 hx with h | h
        · have := (nums_mem p x).1 h; omega
        · have := i1 x h; omega
      · have := (nums_mem p x).1 hx; have := i1 y hy; omega
  exact (key R _ hs).2.imp (fun h => by omega)
theorem flatR_sep_rising (R : List Rn) (h : OkR R) (hl : (flatR R).length ≤ 300) : Rising (flatR R) := by
  have h1 := mg_nil R h.2.1
  have h2 : mg R [] = (flatR R, 0) ∨ tw (flatR R) = true := by
    unfold mg
    rw [h1]
    simp only
    by_cases ht : tw (flatR R) = true
    · exact .inr ht
    · left; rw [if_neg ht, if_neg (by omega)]
  rcases h2 with h2 | h2
  · exact (mg_zero (rest := []) h ⟨by simp, trivial⟩ h2).1
  · exfalso
    have key : ∀ (R : List Rn) (v : Int), Sep v R → (∀ x ∈ flatR R, v < (x : Int)) ∧ (flatR R).Pairwise (· < ·) := by
      intro R
      induction R with
      | nil => intro v _; simp [flatR]
      | cons p t ih =>
        rintro v ⟨h1, h2, h3⟩
        obtain ⟨i1, i2⟩ := ih _ h3
        rw [flatR_cons]
        refine ⟨fun x hx => ?_, List.pairwise_append.2 ⟨List.pairwise_lt_range', i2, fun x hx y hy => ?_⟩⟩
        · rcases List.mem_append.1 hx with h | h
          · have := (nums_mem p x).1 h; omega
          · have := i1 x h; omega
        · have := (nums_mem p x).1 hx; have := i1 y hy; omega
    have k2 := (key R _ h.2.1).2
    have := (tw_false _ (k2.imp (fun h => by omega))).2 k2
    rw [this] at h2; cases h2
theorem sep_pairs : ∀ (R : List Rn) (v : Int), Sep v R ↔ (∀ p ∈ R, v < (p.1 : Int) ∧ 1 ≤ p.2) ∧ R.Pairwise (fun p q => p.1 + p.2 < q.1)
  | [], v => by simp [Sep]
  | p :: t, v => by
    unfold Sep
    rw [sep_pairs t, List.pairwise_cons]
    constructor
    · rintro ⟨h1, h2, h3, h4⟩
      refine ⟨fun q hq => ?_, fun q hq => by have := (h3 q hq).1; omega, h4⟩
      rcases List.mem_cons.1 hq with rfl | hq
      · exact ⟨h1, h2⟩
      · have := h3 q hq; exact ⟨by omega, this.2⟩
    · rintro ⟨h1, h2, h3⟩
      have hx := h1 p (by simp)
      exact ⟨hx.1, hx.2, fun q hq => ⟨by have := h2 q hq; omega, (h1 q (by simp [hq])).2⟩, h3⟩
theorem take_snocN (l : List Nat) (i : Nat) (h : i < l.length) : l.take (i + 1) = l.take i ++ [l[i]?.getD 0] := by
  rw [List.take_add_one, List.getElem?_eq_getElem h]; rfl
theorem drop_nat (l : List Nat) (i : Nat) (h : i < l.length) : l.drop i = l[i]?.getD 0 :: l.drop (i + 1) := by
  rw [List.drop_eq_getElem_cons h, List.getElem?_eq_getElem h]; rfl
def mgE0 (r : List (Int × Int)) (xs : List Int) : Int := if rkchk r ≠ 0 then rkchk r else rchk xs
def rn (r : List (Int × Int)) : List Rn := r.map fun p => (p.1.toNat, p.2.toNat)
theorem rn_rz (R : List Rn) : rn (rz R) = R := by
  unfold rn rz; rw [List.map_map]
  exact (List.map_congr_left fun x _ => by simp).trans (List.map_id R)
def mgA (r : List (Int × Int)) (xs : List Int) : List Nat × Int := if mgE0 r xs ≠ 0 then ([], mgE0 r xs) else mg (rn r) (xs.map Int.toNat)
theorem mgA_ok (R : List Rn) (hR : OkR R) (l : List Nat) (hl : Rising l) : mgA (rz R) (ns l) = mg R l := by
  unfold mgA mgE0
  rw [rkchk_ok R hR, rchk_ok l hl, rn_rz, ns_nat]; simp
theorem mgA_zero (r : List (Int × Int)) (xs : List Int) (h : mgE0 r xs = 0) : ∃ R l, r = rz R ∧ OkR R ∧ xs = ns l ∧ Rising l := by
  unfold mgE0 at h
  by_cases h1 : rkchk r = 0
  · rw [if_neg (by simpa using h1)] at h
    obtain ⟨R, e1, hR⟩ := rkchk_zero r h1
    obtain ⟨l, e2, hl⟩ := rchk_zero xs h
    exact ⟨R, l, e1, hR, e2, hl⟩
  · rw [if_pos h1] at h; exact absurd h h1
end
section
set_option linter.unusedVariables false
def blk : List Bool → Nat → Bool → List Nat
  | [], _, _ => []
  | f :: t, k, p => if f = p then blk t (k + 1) p else k :: blk t 1 (!p)
def cp {α : Type} : Bool → List Nat → List α → List α
  | p, [], F => if p then F else []
  | p, b :: t, F => (if p then F.take b else []) ++ cp (!p) t (F.drop b)
def pr : Bool → List Nat → Nat → Bool
  | p, [], _ => p
  | p, b :: t, i => if i < b then p else pr (!p) t (i - b)
def inL (l : List Nat) (x : Nat) : Bool := decide (x ∈ l)
def notin (F l : List Nat) : List Nat := l.filter (fun x => !inL F x)
def both (F l : List Nat) : List Nat := F.filter (fun x => inL l x)
def bks (F l : List Nat) : List Nat := blk (F.map (inL l)) 0 true
theorem cp_len {α : Type} : ∀ (B : List Nat) (p : Bool) (F : List α), (cp p B F).Sublist F
  | [], p, F => by unfold cp; cases p <;> simp
  | b :: t, p, F => by
    unfold cp
    have h := cp_len t (!p) (F.drop b)
    cases p
    · simpa using h.trans (List.drop_sublist b F)
    · have := h.append_left (F.take b)
      rwa [List.take_append_drop] at this
theorem blk_len : ∀ (fs : List Bool) (k : Nat) (p : Bool), (blk fs k p).length ≤ fs.length
  | [], _, _ => by simp [blk]
  | f :: t, k, p => by
    unfold blk
    split
    · have := blk_len t (k + 1) p; simp; omega
    · have := blk_len t 1 (!p); simp; omega
theorem blk_sum : ∀ (fs : List Bool) (k : Nat) (p : Bool), (blk fs k p).sum ≤ fs.length + k
  | [], _, _ => by simp [blk]
  | f :: t, k, p => by
    unfold blk
    split
    · have := blk_sum t (k + 1) p; simp; omega
    · have := blk_sum t 1 (!p); simp; omega
theorem blk_pos : ∀ (fs : List Bool) (k : Nat) (p : Bool), 1 ≤ k → ∀ b ∈ blk fs k p, 1 ≤ b
  | [], _, _, _ => by simp [blk]
  | f :: t, k, p, h => by
    unfold blk
    split
    · exact blk_pos t (k + 1) p (by omega)
    · intro b hb
      rcases List.mem_cons.1 hb with rfl | hb
      · exact h
      · exact blk_pos t 1 (!p) (Nat.le_refl _) b hb
theorem blk_tail : ∀ (fs : List Bool) (k : Nat) (p : Bool), ∀ b ∈ (blk fs k p).drop 1, 1 ≤ b
  | [], _, _ => by simp [blk]
  | f :: t, k, p => by
    unfold blk
    split
    · exact blk_tail t (k + 1) p
    · intro b hb
      exact blk_pos t 1 (!p) (Nat.le_refl _) b (by simpa using hb)
theorem cp_blk {α : Type} (q : α → Bool) : ∀ (F X : List α) (p : Bool), (∀ x ∈ X, q x = p) → cp p (blk (F.map q) X.length p) (X ++ F) = (if p then X else []) ++ F.filter q
  | [], X, p, h => by simp [blk, cp]
  | f :: t, X, p, h => by
    rw [List.map_cons]
    unfold blk
    by_cases e : q f = p
    · rw [if_pos e]
      have := cp_blk q t (X ++ [f]) p (fun x hx => by rcases List.mem_append.1 hx with hx | hx; exact h x hx; simp at hx; rw [hx]; exact e)
      rw [List.length_append, List.append_assoc] at this
      rw [show X ++ f :: t = X ++ ([f] ++ t) by simp, show X.length + 1 = X.length + [f].length from rfl, this, List.filter_cons, e]
      cases p <;> simp
    · rw [if_neg e]
      have e2 : q f = !p := by cases h1 : q f <;> cases h2 : p <;> simp_all
      have := cp_blk q t [f] (!p) (fun x hx => by simp at hx; rw [hx]; exact e2)
      unfold cp
      rw [List.take_append_of_le_length (Nat.le_refl _), List.take_of_length_le (Nat.le_refl _), List.drop_append_of_le_length (Nat.le_refl _), List.drop_of_length_le (Nat.le_refl _), List.nil_append, show f :: t = [f] ++ t from rfl, show (1 : Nat) = [f].length from rfl, this, show [f] ++ t = f :: t from rfl, List.filter_cons, e2]
      cases p <;> simp
theorem cp_bks (F l : List Nat) : cp true (bks F l) F = both F l := by
  have := cp_blk (inL l) F [] true (by simp)
  simpa [bks, both] using this
def bbad : Bool → List Int → Bool
  | _, [] => false
  | fst, b :: t => decide (b < 0 ∨ b = 0 ∧ fst = false) || bbad false t
def bfit : Int → List Int → Bool
  | _, [] => true
  | m, b :: t => decide (b ≤ m) && bfit (m - b) t
def bchk (bs : List Int) (m : Nat) : Int := if m + 1 < bs.length then 2 else if bbad true bs = true then 3 else if bfit m bs = true then 0 else 8
def BOk (B : List Nat) (m : Nat) : Prop := B.length ≤ m + 1 ∧ (∀ b ∈ B.drop 1, 1 ≤ b) ∧ B.sum ≤ m
theorem bfit_ns : ∀ (B : List Nat) (m : Nat), bfit m (ns B) = decide (B.sum ≤ m)
  | [], m => by simp [bfit, ns]
  | b :: t, m => by
    rw [ns_cons]
    unfold bfit
    by_cases h : b ≤ m
    · have ih := bfit_ns t (m - b)
      rw [show ((m - b : Nat) : Int) = (m : Int) - (b : Int) by omega] at ih
      rw [ih, List.sum_cons]
      rw [decide_eq_true (show (b : Int) ≤ (m : Int) by omega), Bool.true_and]
      congr 1; apply propext; omega
    · rw [decide_eq_false (show ¬ (b : Int) ≤ (m : Int) by omega), Bool.false_and, List.sum_cons, decide_eq_false (by omega)]
theorem bbad_false : ∀ (bs : List Int) (f : Bool), bbad f bs = false → ∃ B, bs = ns B ∧ (f = false → ∀ b ∈ B, 1 ≤ b) ∧ ∀ b ∈ B.drop 1, 1 ≤ b
  | [], f, _ => ⟨[], rfl, by simp, by simp⟩
  | b :: t, f, h => by
    unfold bbad at h
    rw [Bool.or_eq_false_iff, decide_eq_false_iff_not] at h
    obtain ⟨B, rfl, h1, h2⟩ := bbad_false t false h.2
    obtain ⟨k, rfl⟩ : ∃ k : Nat, b = (k : Int) := ⟨b.toNat, by omega⟩
    refine ⟨k :: B, rfl, fun hf => ?_, by simpa using h1 rfl⟩
    intro c hc
    rcases List.mem_cons.1 hc with rfl | hc
    · have := h.1; subst hf; simp at this; omega
    · exact h1 rfl c hc
theorem bbad_ns : ∀ (B : List Nat) (f : Bool), (f = false → ∀ b ∈ B, 1 ≤ b) → (∀ b ∈ B.drop 1, 1 ≤ b) → bbad f (ns B) = false
  | [], f, _, _ => rfl
  | b :: t, f, h1, h2 => by
    rw [ns_cons]
    unfold bbad
    rw [Bool.or_eq_false_iff, decide_eq_false_iff_not]
    refine ⟨?_, bbad_ns t false (fun _ => by simpa using h2) (fun c hc => by simp at h2; exact h2 c (List.mem_of_mem_drop hc))⟩
    rintro (h | ⟨h, hf⟩)
    · omega
    · have := h1 hf b (by simp); omega
theorem bchk_zero (bs : List Int) (m : Nat) (h : bchk bs m = 0) : ∃ B, bs = ns B ∧ BOk B m := by
  unfold bchk at h
  split at h
  · omega
  · rename_i h1
    split at h
    · omega
    · rename_i h2
      split at h
      · rename_i h3
        obtain ⟨B, rfl, _, h4⟩ := bbad_false bs true (by simpa using h2)
        rw [bfit_ns, decide_eq_true_eq] at h3
        exact ⟨B, rfl, by rw [ns_length] at h1; omega, h4, h3⟩
      · omega
theorem bchk_ok (B : List Nat) (m : Nat) (h : BOk B m) : bchk (ns B) m = 0 := by
  unfold bchk
  rw [if_neg (by rw [ns_length]; have := h.1; omega), if_neg (by rw [bbad_ns B true (by simp) h.2.1]; simp), bfit_ns, if_pos (by simpa using h.2.2)]
theorem bks_ok (F l : List Nat) : BOk (bks F l) F.length := by
  have h1 := blk_len (F.map (inL l)) 0 true
  have h2 := blk_sum (F.map (inL l)) 0 true
  rw [List.length_map] at h1 h2
  exact ⟨by unfold bks; omega, blk_tail _ _ _, by unfold bks; omega⟩
theorem bks_len (F l : List Nat) : (bks F l).length ≤ F.length := by
  have h1 := blk_len (F.map (inL l)) 0 true
  rwa [List.length_map] at h1
def tn (xs : List Int) : List Nat := xs.map Int.toNat
theorem tn_ns (l : List Nat) : tn (ns l) = l := ns_nat l
def cpE (xs bs : List Int) : Int := if rchk xs ≠ 0 then rchk xs else bchk bs xs.length
def cpA (xs bs : List Int) : List Nat := if cpE xs bs ≠ 0 then [] else cp true (tn bs) (tn xs)
def un (a b : List Nat) : List Nat × Int := if tw (nso (a ++ b)) = true then ([], 6) else if 300 < (nso (a ++ b)).length then ([], 2) else (nso (a ++ b), 0)
def jnE (xs bs ys : List Int) : Int := if cpE xs bs ≠ 0 then cpE xs bs else rchk ys
def jnA (xs bs ys : List Int) : List Nat × Int := if jnE xs bs ys ≠ 0 then ([], jnE xs bs ys) else un (cp true (tn bs) (tn xs)) (tn ys)
theorem un_or (a b : List Nat) : un a b = ([], 6) ∨ un a b = ([], 2) ∨ (un a b = (nso (a ++ b), 0) ∧ (nso (a ++ b)).length ≤ 300) := by
  unfold un
  split
  · exact .inl rfl
  · split
    · exact .inr (.inl rfl)
    · exact .inr (.inr ⟨rfl, by omega⟩)
theorem both_rising (F l : List Nat) (h : Rising F) : Rising (both F l) := rising_sub List.filter_sublist h
theorem notin_rising (F l : List Nat) (h : Rising l) : Rising (notin F l) := rising_sub List.filter_sublist h
theorem ris_nodup (l : List Nat) (h : Rising l) : l.Nodup := (((ris_pairwise l (-1)).1 h.2).2).imp (fun h => by omega)
theorem ris_uniq (a b : List Nat) (ha : Rising a) (hb : Rising b) (h : ∀ x, x ∈ a ↔ x ∈ b) : a = b := by
  have h1 := ((ris_pairwise a (-1)).1 ha.2).2
  have h2 := ((ris_pairwise b (-1)).1 hb.2).2
  refine sorted_uniq a b ?_ (h1.imp (fun h => by omega)) (h2.imp (fun h => by omega))
  exact (List.perm_ext_iff_of_nodup (ris_nodup a ha) (ris_nodup b hb)).2 h
theorem both_mem (F l : List Nat) (x : Nat) : x ∈ both F l ↔ x ∈ F ∧ x ∈ l := by simp [both, inL]
theorem both_swap (F l : List Nat) (h1 : Rising F) (h2 : Rising l) : both F l = both l F :=
  ris_uniq _ _ (both_rising _ _ h1) (both_rising _ _ h2) fun x => by rw [both_mem, both_mem]; exact And.comm
theorem split_perm (q : Nat → Bool) : ∀ l : List Nat, (l.filter q ++ l.filter (fun x => !q x)).Perm l
  | [] => .refl _
  | x :: t => by
    have ih := split_perm q t
    rw [List.filter_cons, List.filter_cons]
    cases h : q x
    · simp only [Bool.false_eq_true, if_false, Bool.not_false, if_true]
      exact List.perm_middle.trans (ih.cons x)
    · simpa using ih.cons x
theorem both_perm (F l : List Nat) (h1 : Rising F) (h2 : Rising l) : (both F l ++ notin F l).Perm l := by
  rw [both_swap F l h1 h2]
  exact split_perm (inL F) l
theorem un_back (F l : List Nat) (h1 : Rising F) (h2 : Rising l) : un (both F l) (notin F l) = (l, 0) := by
  have hp := ((ris_pairwise l (-1)).1 h2.2).2
  have e : nso (both F l ++ notin F l) = l := nso_uniq (both_perm F l h1 h2).symm (hp.imp (fun h => by omega))
  unfold un
  rw [e, if_neg (by rw [(tw_false l (hp.imp (fun h => by omega))).2 hp]; simp), if_neg (by have := h2.1; omega)]
theorem both_len (F l : List Nat) (h1 : Rising F) (h2 : Rising l) : (both F l).length + (notin F l).length = l.length := by
  rw [← List.length_append, (both_perm F l h1 h2).length_eq]
theorem cp_rising (B F : List Nat) (h : Rising F) : Rising (cp true B F) := rising_sub (cp_len B true F) h
theorem blk_cons (f : Bool) (t : List Bool) (k : Nat) (p : Bool) : blk (f :: t) k p = if f = p then blk t (k + 1) p else k :: blk t 1 (!p) := rfl
end
section
set_option maxRecDepth 100000
def sz (m : Nat) : Nat := if m ≤ 1 then 0 else Nat.log2 (m - 1) + 1
theorem sz_ge (m : Nat) : m ≤ 2 ^ sz m := by
  unfold sz
  split
  · have := Nat.two_pow_pos 0; omega
  · have : m - 1 < 2 ^ (Nat.log2 (m - 1) + 1) := Nat.lt_log2_self
    omega
theorem sz_lt (m : Nat) (h : 1 < m) : 1 ≤ sz m ∧ 2 ^ (sz m - 1) < m := by
  unfold sz
  rw [if_neg (by omega)]
  have := Nat.log2_self_le (n := m - 1) (by omega)
  rw [Nat.add_sub_cancel]
  omega
theorem sz_le (m k : Nat) (h : m ≤ 2 ^ k) : sz m ≤ k := by
  by_cases h1 : 1 < m
  · have a := pow_inj_le (Nat.lt_of_lt_of_le (sz_lt m h1).2 h)
    omega
  · unfold sz; rw [if_pos (by omega)]; omega
def sh (m : Nat) : Nat := 2 ^ sz m - m
theorem sh_add (m : Nat) : sh m + m = 2 ^ sz m := by have := sz_ge m; unfold sh; omega
theorem sh_lt (m : Nat) (h : 1 ≤ m) : sz m = 0 ∧ sh m = 0 ∧ m = 1 ∨ 1 ≤ sz m ∧ sh m < 2 ^ (sz m - 1) ∧ 2 ^ sz m = 2 * 2 ^ (sz m - 1) ∧ sh m < m := by
  by_cases h1 : m = 1
  · subst h1; left; exact ⟨rfl, rfl, rfl⟩
  · right
    obtain ⟨k1, k2⟩ := sz_lt m (by omega)
    have e : 2 ^ sz m = 2 * 2 ^ (sz m - 1) := by
      rw [show sz m = sz m - 1 + 1 by omega, Nat.pow_succ]; simp; omega
    have := sh_add m
    exact ⟨k1, by omega, e, by omega⟩
def lst (n m : Nat) : List Bool := if n < sh m then nb n (sz m - 1) else nb (n + sh m) (sz m)
def lstR (l : List Bool) (s m : Nat) : Nat × Nat × Int :=
  if 1 ≤ sz m ∧ s + (sz m - 1) ≤ l.length ∧ num ((l.drop s).take (sz m - 1)) < sh m then (num ((l.drop s).take (sz m - 1)), s + (sz m - 1), 0)
  else if s + sz m ≤ l.length then (num ((l.drop s).take (sz m)) - sh m, s + sz m, 0) else (0, 0, 7)
theorem lst_length_le (n m : Nat) : (lst n m).length ≤ sz m := by
  unfold lst; split <;> rw [nb_length] <;> omega
theorem take_nb (p t : List Bool) (n k : Nat) : ((p ++ (nb n k ++ t)).drop p.length).take k = nb n k := by
  rw [List.drop_left]
  have := List.take_left (l₁ := nb n k) (l₂ := t)
  rwa [nb_length] at this
theorem num_take_le (l : List Bool) (j k : Nat) (h : j + k ≤ l.length) : num (l.take (j + k)) = num (l.take j) * 2 ^ k + num ((l.drop j).take k) := by
  rw [List.take_add, num_append, List.length_take, List.length_drop, Nat.min_eq_left (by omega)]
theorem lstR_lst (p t : List Bool) (n m : Nat) (h : n < m) : lstR (p ++ (lst n m ++ t)) p.length m = (n, p.length + (lst n m).length, 0) := by
  have hs := sh_add m
  unfold lstR lst
  by_cases hn : n < sh m
  · simp only [if_pos hn]
    rcases sh_lt m (by omega) with ⟨a, b, c⟩ | ⟨a, b, c, d⟩
    · omega
    · have e : num (((p ++ (nb n (sz m - 1) ++ t)).drop p.length).take (sz m - 1)) = n := by
        rw [take_nb, num_nb_small _ _ (Nat.div_eq_of_lt (by omega))]
      rw [e, nb_length, if_pos ⟨a, by rw [List.length_append, List.length_append, nb_length]; omega, hn⟩]
  · simp only [if_neg hn]
    have e : num (((p ++ (nb (n + sh m) (sz m) ++ t)).drop p.length).take (sz m)) = n + sh m := by
      rw [take_nb, num_nb_small _ _ (Nat.div_eq_of_lt (by omega))]
    rw [e, nb_length, if_neg ?_, if_pos (by rw [List.length_append, List.length_append, nb_length]; omega), Nat.add_sub_cancel]
    rintro ⟨h1, h2, h3⟩
    have f := num_take_le ((p ++ (nb (n + sh m) (sz m) ++ t)).drop p.length) (sz m - 1) 1 (by rw [List.drop_left, List.length_append, nb_length]; omega)
    rw [show sz m - 1 + 1 = sz m by omega, e] at f
    have g := num_lt ((((p ++ (nb (n + sh m) (sz m) ++ t)).drop p.length).drop (sz m - 1)).take 1)
    have g1 : ((((p ++ (nb (n + sh m) (sz m) ++ t)).drop p.length).drop (sz m - 1)).take 1).length ≤ 1 := by rw [List.length_take]; omega
    have g2 := Nat.pow_le_pow_right (n := 2) (by omega) g1
    omega
theorem lstR_bound (l : List Bool) (s m : Nat) (hm : 1 ≤ m) (hs : s ≤ l.length) : (lstR l s m).2.1 ≤ l.length ∧ (lstR l s m).1 < m ∧ ((lstR l s m).2.2 = 0 ∨ (lstR l s m).2.2 = 7) := by
  have hz := sh_add m
  unfold lstR
  split
  · rename_i h
    rcases sh_lt m hm with ⟨a, b, c⟩ | ⟨a, b, c, d⟩
    · omega
    · exact ⟨by simp only; omega, by simp only; omega, .inl rfl⟩
  · split
    · have g := num_lt ((l.drop s).take (sz m))
      rw [List.length_take, List.length_drop, Nat.min_eq_left (by omega)] at g
      exact ⟨by simp only; omega, by simp only; omega, .inl rfl⟩
    · exact ⟨Nat.zero_le _, hm, .inr rfl⟩
def zq (h k : Nat) : Nat := 2 ^ (h * k + k) - 2 ^ (h * k)
def zet (n k : Nat) : List Bool := uc (lg n / k) ++ lst (n + 1 - 2 ^ (lg n / k * k)) (zq (lg n / k) k)
def remR (l : List Bool) (r : Nat × Nat × Int) (m : Nat) (f : Nat → Nat) : Nat × Nat × Int :=
  let q := lstR l r.2.1 m
  if q.2.2 ≠ 0 then (0, 0, q.2.2) else if 1099511627776 < f q.1 then (0, 0, 3) else (f q.1, q.2.1, 0)
def zetR (l : List Bool) (s k : Nat) : Nat × Nat × Int :=
  if (uR l s).2.2 ≠ 0 then (0, 0, (uR l s).2.2) else if 40 < (uR l s).1 * k then (0, 0, 3) else remR l (uR l s) (zq (uR l s).1 k) fun r => 2 ^ ((uR l s).1 * k) + r - 1
theorem zq_pos (h k : Nat) (hk : 1 ≤ k) : 1 ≤ zq h k := by
  unfold zq
  have := Nat.pow_lt_pow_right (a := 2) (by omega) (show h * k < h * k + k by omega)
  omega
theorem zet_in (n k : Nat) (hk : 1 ≤ k) : 2 ^ (lg n / k * k) ≤ n + 1 ∧ n + 1 - 2 ^ (lg n / k * k) < zq (lg n / k) k := by
  have h1 := lg_le n
  have h2 := lg_lt n
  have a : lg n / k * k ≤ lg n := Nat.div_mul_le_self _ _
  have b : lg n + 1 ≤ lg n / k * k + k := by
    have e := Nat.div_add_mod (lg n) k
    have := Nat.mod_lt (lg n) (show k > 0 by omega)
    rw [Nat.mul_comm] at e
    omega
  have c := Nat.pow_le_pow_right (n := 2) (by omega) a
  have d := Nat.pow_le_pow_right (n := 2) (by omega) b
  unfold zq
  omega
theorem zet_40 (n k : Nat) (hn : n ≤ 1099511627776) : lg n / k * k ≤ 40 := by
  have := lg_lt_of n 41 (by omega)
  have : lg n / k * k ≤ lg n := Nat.div_mul_le_self _ _
  omega
theorem zetR_zet (p t : List Bool) (n k : Nat) (hk : 1 ≤ k) (hn : n ≤ 1099511627776) : zetR (p ++ (zet n k ++ t)) p.length k = (n, p.length + (zet n k).length, 0) := by
  obtain ⟨h1, h2⟩ := zet_in n k hk
  have h3 := zet_40 n k hn
  unfold zetR zet remR
  rw [List.append_assoc, uR_uc, if_neg (by simp), if_neg (by simp only; omega)]
  have e := lstR_lst (p ++ uc (lg n / k)) t _ _ h2
  rw [List.length_append, uc_length, List.append_assoc, ← Nat.add_assoc] at e
  simp only [e]
  rw [if_neg (by simp), if_neg (by omega), List.length_append, uc_length]
  congr 1
  · omega
  · congr 1
    omega
theorem zq_le (h k : Nat) (h1 : h * k ≤ 40) (h2 : k ≤ 16) : zq h k ≤ 72057594037927936 := by
  unfold zq
  have := Nat.pow_le_pow_right (n := 2) (by omega) (show h * k + k ≤ 56 by omega)
  exact Nat.le_trans (Nat.sub_le _ _) this
end
end
section
set_option linter.unusedVariables false
abbrev Ar := Nat × Nat
def arcs : Nat → List (List Nat) → List Ar
  | _, [] => []
  | o, l :: t => l.map (fun x => (o, x)) ++ arcs (o + 1) t
structure GOk (g : List (List Nat)) : Prop where
  nodes : g.length ≤ 100
  ris : ∀ l ∈ g, l.Pairwise (· < ·)
  bd : ∀ l ∈ g, ∀ x ∈ l, x < g.length
  many : (arcs 0 g).length ≤ 600
def row (g : List (List Nat)) (i : Nat) : List Nat := g[i]?.getD []
theorem row_mem {g : List (List Nat)} {i : Nat} (h : i < g.length) : row g i ∈ g := by
  unfold row; rw [List.getElem?_eq_getElem h]; exact List.getElem_mem h
theorem row_out {g : List (List Nat)} {i : Nat} (h : g.length ≤ i) : row g i = [] := by
  unfold row; rw [List.getElem?_eq_none h]; rfl
theorem row_ris {g : List (List Nat)} (h : GOk g) (i : Nat) : (row g i).Pairwise (· < ·) := by
  by_cases hi : i < g.length
  · exact h.ris _ (row_mem hi)
  · rw [row_out (by omega)]; exact .nil
def tos (L : List Ar) (i : Nat) : List Nat := (L.filter (fun a => a.1 == i)).map (·.2)
def rws (n : Nat) (L : List Ar) : List (List Nat) := (List.range n).map (tos L)
def wa (n : Nat) (L : List Ar) : List (List Nat) := (rws n L).map nso
end
section
set_option maxRecDepth 100000
set_option linter.unusedVariables false
open Go.RowKit Go.Shelf
abbrev Rw := Option Addr × Nat × List Int
def sl (r : Rw) : Value := .slice r.1 r.2.2.length r.2.1
def rcl (R : List Rw) : List Value := R.map sl
def gs (R : List Rw) : List (List Int) := R.map (·.2.2)
theorem rcl_length (R : List Rw) : (rcl R).length = R.length := by simp [rcl]
theorem gs_length (R : List Rw) : (gs R).length = R.length := by simp [gs]
theorem rcl_get (R : List Rw) (i : Nat) (h : i < R.length) : (rcl R)[i]? = some (sl (R[i]?.getD (none, 0, []))) := by
  simp [rcl, List.getElem?_map, List.getElem?_eq_getElem h]
theorem rw_mem (R : List Rw) (i : Nat) (h : i < R.length) : R[i]?.getD (none, 0, []) ∈ R := by rw [List.getElem?_eq_getElem h]; exact List.getElem_mem h
theorem drop_rw (R : List Rw) (i : Nat) (h : i < R.length) : R.drop i = R[i]?.getD (none, 0, []) :: R.drop (i + 1) := by
  rw [List.drop_eq_getElem_cons h, List.getElem?_eq_getElem h]; rfl
def RdG (w : World) (B : Nat) (A : Option Addr) (R : List Rw) : Prop :=
  RdV w B A (rcl R) ∧ ∀ r ∈ R, RdV w B r.1 (zc r.2.2) ∧ r.2.2.length ≤ 140737488355328
theorem RdG.keep {w w' : World} {B B' : Nat} {A : Option Addr} {R : List Rw} (h : RdG w B A R) (hB : B ≤ B') (hk : ∀ k, k < B → w'.heap[k]? = w.heap[k]?) : RdG w' B' A R :=
  ⟨h.1.keep hB hk, fun r hr => ⟨(h.2 r hr).1.keep hB hk, (h.2 r hr).2⟩⟩
theorem RdG.below {w w' : World} {B B' : Nat} {A : Option Addr} {R : List Rw} (h : RdG w B A R) (hb : Below B w w') (hB : B ≤ B') : RdG w' B' A R := h.keep hB hb.block
theorem RdG.on {w V : World} {A : Option Addr} {R : List Rw} (h : RdG w w.heap.size A R) (hb : Below w.heap.size w V) : RdG V V.heap.size A R := h.below hb hb.size
def okG (n : Int) (x : Int) : Bool := decide (0 ≤ x ∧ x < n)
set_option maxHeartbeats 400000 in
theorem isnode1 (n x : Int) (B : Nat) (w : World) (hb : w.heap[B]? = some (.cells #[.int .i64 n] 3 (0, 0))) : Calls Tryz.prog 168 #[.int .i64 x, .pointer (some ⟨B, 0, none⟩)] w fun e w' => e = .returned (.bool (okG n x)) ∧ w = w' := by
  have hc : w.cell? ⟨B, 0, none⟩ = some (.int .i64 n) := (cell_at hb _).trans rfl
  clear hb
  by_cases h1 : 0 ≤ x
  · by_cases h2 : x < n
    · have e : okG n x = true := by unfold okG; simp; omega
      have t1 : decide ((0 : Int) ≤ x) = true := by simp; omega
      have t2 : decide (x < n) = true := by simp; omega
      rw [e]
      go_enter Tryz.func168, Tryz.ntmps168
      go_wp2
      go_ret
      exact ⟨rfl, rfl⟩
    · have e : okG n x = false := by unfold okG; simp; omega
      have t1 : decide ((0 : Int) ≤ x) = true := by simp; omega
      have t2 : decide (x < n) = false := by simp; omega
      rw [e]
      go_enter Tryz.func168, Tryz.ntmps168
      go_wp2
      go_ret
      exact ⟨rfl, rfl⟩
  · have e : okG n x = false := by unfold okG; simp; omega
    have t1 : decide ((0 : Int) ≤ x) = false := by simp; omega
    rw [e]
    go_enter Tryz.func168, Tryz.ntmps168
    go_wp2
    go_ret
    exact ⟨rfl, rfl⟩
theorem isnodeof_any (n : Int) (w : World) : Calls Tryz.prog 130 #[.int .i64 n] w fun e w' => e = .returned (.func (.func 168) #[] #[.pointer (some ⟨w.heap.size, 0, none⟩)]) ∧ w' = w.alloc (.cells #[.int .i64 n] 3) := by
  go_enter Tryz.func130, Tryz.ntmps130
  go_wp2
  go_ret
  exact ⟨rfl, rfl⟩
theorem entersNode1 : ∀ args w, (callFunc 168 args).run Tryz.prog w = .ok (.enter 168 args) w := enters_of Tryz.func168 (by kernel_rfl) rfl
theorem entersChk1 : ∀ args w, (callFunc 129 args).run Tryz.prog w = .ok (.enter 129 args) w := enters_of Tryz.func129 (by kernel_rfl) rfl
def rsE (n : Int) (xs : List Int) : Int := eachS (ckO (okG n)) id (-1) xs
theorem okG_bd (n : Int) (hn : n ≤ 100) : ∀ x, okG n x = true → 0 ≤ x ∧ x ≤ 4611686018427387904 := fun x h => by unfold okG at h; simp at h; omega
set_option maxHeartbeats 1000000 in
/-- One list is looked at. -/
theorem chk1_any (N : Nat) (hN : N ≤ 100) (xs : List Int) (n : Nat) (hn : xs.length = n) (hn2 : n ≤ 140737488355328) (A : Option Addr) (c : Nat) (m : Nat) (hm : m ≤ 14073748835532800) (Bm Bg : Nat) (hlt : Bg < Bm) (AG : Option Addr) (cG : Nat) (w : World) (hbm : w.heap[Bm]? = some (.cells #[.int .i64 (m : Int)] 3 (0, 0))) (hbg : w.heap[Bg]? = some (.cells #[.slice AG N cG] 42 (0, 0))) (h : RdV w Bm A (zc xs)) :
    Calls Tryz.prog 129 (#[.slice A n c] ++ #[.pointer (some ⟨Bm, 0, none⟩), .pointer (some ⟨Bg, 0, none⟩)]) w fun e w' => e = .returned (.int .i64 (rsE (N : Int) xs)) ∧ Below Bm w w' ∧ w'.heap[Bm]? = some (.cells #[.int .i64 ((m + n : Nat) : Int)] 3 (0, 0)) := by
  show Calls Tryz.prog 129 #[.slice A n c, .pointer (some ⟨Bm, 0, none⟩), .pointer (some ⟨Bg, 0, none⟩)] w _
  have hcm : w.cell? ⟨Bm, 0, none⟩ = some (.int .i64 (m : Int)) := (cell_at hbm _).trans rfl
  have hfm := frz_at hbm 0
  have hcg : w.cell? ⟨Bg, 0, none⟩ = some (.slice AG N cG) := (cell_at hbg _).trans rfl
  have hw1 : wrap64 ((m : Int) + (n : Int)) = ((m + n : Nat) : Int) := by unfold wrap64; omega
  have hw2 : IntKind.i64.wrap ((m : Int) + (n : Int)) = ((m + n : Nat) : Int) := by rw [IntKind.wrap_i64]; omega
  obtain ⟨mm, hmm⟩ : ∃ mm, m + n = mm := ⟨_, rfl⟩
  rw [hmm] at hw1 hw2 ⊢
  have HX : Hid ((w.setCell ⟨Bm, 0, none⟩ (.int .i64 (mm : Int))).heap[Bm]? = some (.cells #[.int .i64 (mm : Int)] 3 (0, 0)) ∧ Below Bm w (w.setCell ⟨Bm, 0, none⟩ (.int .i64 (mm : Int))) ∧ Bm < (w.setCell ⟨Bm, 0, none⟩ (.int .i64 (mm : Int))).heap.size ∧ (w.setCell ⟨Bm, 0, none⟩ (.int .i64 (mm : Int))).cell? ⟨Bg, 0, none⟩ = some (.slice AG N cG)) := by
    have hb := (Below.refl Bm w).setCell (p := ⟨Bm, 0, none⟩) (Nat.le_refl _) (.int .i64 (mm : Int))
    have h1 := heap_set_same _ Bm 0 (.int .i64 (mm : Int)) _ _ hbm
    refine ⟨by rw [h1]; simp, hb, (Array.getElem?_eq_some_iff.1 h1).1, (hb.cell (p := ⟨Bg, 0, none⟩) hlt).trans hcg⟩
  have HR := Lib.hid h
  clear hmm hm hbm hbg h
  go_enter Tryz.func129, Tryz.ntmps129
  go_wp2_with fail
  generalize w.setCell ⟨Bm, 0, none⟩ (.int .i64 (mm : Int)) = V at *
  have kg := HX.out.2.2.2
  go_wp2_with fail
  refine (isnodeof_any (N : Int) V).mono ?_
  rintro e w1 ⟨rfl, rfl⟩
  have hn1 := World.alloc_heap_new V (.cells #[.int .i64 (N : Int)] 3)
  have HB1 : Hid (Below V.heap.size V (V.alloc (.cells #[.int .i64 (N : Int)] 3))) := one_below _ _
  have HC := Lib.hid (crising_any 168 #[.pointer (some ⟨V.heap.size, 0, none⟩)] (okG (N : Int)) (okG_bd _ (by omega)) xs n hn (by omega) A c (V.alloc (.cells #[.int .i64 (N : Int)] 3))
    ((HR.out.below HX.out.2.1 (Nat.le_of_lt HX.out.2.2.1)).on HB1.out) entersNode1 (fun x W hW => isnode1 (N : Int) x V.heap.size W ((hW.block _ (by rw [World.size_alloc]; omega)).trans hn1)))
  generalize hE : eachS (ckO (okG (N : Int))) id (-1) xs = r at *
  have HE := Lib.hid hE
  have HN1 := Lib.hid hn1
  clear hE hn1 hn
  go_wp2_with fail
  refine HC.out.mono ?_
  rintro e w2 ⟨rfl, b2⟩
  have HB2 : Hid (Below V.heap.size V w2) := HB1.out.trans (b2.mono HB1.out.size)
  clear b2
  go_wp2
  go_ret
  exact ⟨by rw [← HE.out]; rfl, HX.out.2.1.trans (HB2.out.mono (Nat.le_of_lt HX.out.2.2.1)), (HB2.out.block Bm HX.out.2.2.1).trans HX.out.1⟩
def firstE (f : List Int → Int) : List (List Int) → Int
  | [] => 0
  | x :: t => if f x = 0 then firstE f t else f x
theorem firstE_cons (f : List Int → Int) (x : List Int) (t : List (List Int)) : firstE f (x :: t) = if f x = 0 then firstE f t else f x := rfl
def sumL (g : List (List Int)) : Nat := (g.map List.length).sum
theorem sumL_cons (x : List Int) (t : List (List Int)) : sumL (x :: t) = x.length + sumL t := by simp [sumL]
def ErwRel (f : List Int → Int) (B : Nat) (R : List Rw) (w : World) (p : Value) (wr : World) : Prop :=
  ∃ (i m : Nat), i ≤ R.length ∧ p = .int .i64 (i : Int) ∧ firstE f (gs R) = firstE f (gs (R.drop i)) ∧ m + sumL (gs (R.drop i)) = sumL (gs R) ∧ wr.heap[B]? = some (.cells #[.int .i64 (m : Int)] 3 (0, 0)) ∧ Below B w wr
theorem sumL_bd : ∀ (R : List Rw), (∀ r ∈ R, r.2.2.length ≤ 140737488355328) → sumL (gs R) ≤ R.length * 140737488355328
  | [], _ => by simp [sumL, gs]
  | r :: t, h => by
    have h1 := sumL_bd t (fun x hx => h x (by simp [hx]))
    have h2 := h r (by simp)
    have : gs (r :: t) = r.2.2 :: gs t := rfl
    rw [this, sumL_cons, List.length_cons]; omega
set_option maxHeartbeats 1000000 in
theorem each_rows (g : Nat) (B : Nat) (cb : Array Value) (f : List Int → Int) (R : List Rw) (n : Nat) (hn : R.length = n) (hn2 : n ≤ 100) (A : Option Addr) (c : Nat) (w : World) (h : RdG w B A R) (hb : w.heap[B]? = some (.cells #[.int .i64 0] 3 (0, 0)))
    (eg : ∀ args w, (callFunc g args).run Tryz.prog w = .ok (.enter g args) w)
    (hg : ∀ (r : Rw) (m : Nat) (V : World), r ∈ R → m ≤ 14073748835532800 → Below B w V → V.heap[B]? = some (.cells #[.int .i64 (m : Int)] 3 (0, 0)) → Calls Tryz.prog g (#[sl r] ++ cb) V fun e w' => e = .returned (.int .i64 (f r.2.2)) ∧ Below B V w' ∧ w'.heap[B]? = some (.cells #[.int .i64 ((m + r.2.2.length : Nat) : Int)] 3 (0, 0))) :
    Calls Tryz.prog 128 #[.slice A n c, .func (.func g) #[] cb] w fun e w' => e = .returned (.int .i64 (firstE f (gs R))) ∧ Below B w w' ∧ ∃ m : Nat, w'.heap[B]? = some (.cells #[.int .i64 (m : Int)] 3 (0, 0)) ∧ (firstE f (gs R) = 0 → m = sumL (gs R)) := by
  have HBd := Lib.hid (sumL_bd R (fun r hr => (h.2 r hr).2))
  have HR := Lib.hid h; clear h
  have HN := Lib.hid hn; clear hn
  have HG := Lib.hid hg; clear hg
  have HB0 := Lib.hid hb; clear hb
  go_enter Tryz.func128, Tryz.ntmps128
  go_wp2
  go_loopw [10] (fun p wr => ErwRel f B R w p wr) (fun p _ => n - (intOf p).toNat)
  case atStart => exact ⟨0, 0, Nat.zero_le _, rfl, rfl, by simp, HB0.out, Below.refl _ _⟩
  case round =>
    obtain ⟨i, m, hi, rfl, ht, hs, hbox, hbel⟩ := hrel
    rw [HN.out] at hi
    by_cases hlt : i < n
    · have hin : i < R.length := by rw [HN.out]; exact hlt
      have hR := HR.out.below hbel (Nat.le_refl _)
      obtain ⟨b, off, rfl, hb, hc⟩ := hR.1.at_ (rcl_get R i hin)
      have hmem := rw_mem R i hin
      rw [drop_rw R i hin, show gs (R[i]?.getD (none, 0, []) :: R.drop (i + 1)) = (R[i]?.getD (none, 0, [])).2.2 :: gs (R.drop (i + 1)) from rfl] at ht hs
      rw [firstE_cons] at ht
      rw [sumL_cons] at hs
      generalize R[i]?.getD (none, 0, []) = r at *
      have HC := Lib.hid (HG.out r m wr hmem (by have := HBd.out; rw [HN.out] at this; omega) hbel hbox)
      have HB := Lib.hid hbel; clear hbel hR hbox hmem
      obtain ⟨A1, c1, xs⟩ := r
      simp only [sl] at hc HC ht hs
      have HS := Lib.hid hs; clear hs
      generalize hln : xs.length = ln at *
      by_cases hf : f xs = 0
      · rw [if_pos hf] at ht
        have HT := Lib.hid ht
        rw [hf] at HC
        clear hf ht hln
        go_wp2_with fail
        refine HC.out.mono ?_
        rintro e w1 ⟨rfl, b1, k1⟩
        have HB1 := Lib.hid b1; have HK1 := Lib.hid k1; clear b1 k1
        go_wp2
        go_roundw
        case rel => exact ⟨i + 1, m + ln, by rw [HN.out]; omega, by go_num, HT.out, by rw [← HS.out]; omega, HK1.out, HB.out.trans HB1.out⟩
        case measure => simp [intOf]; omega
      · rw [if_neg hf] at ht
        have HE := Lib.hid ht
        have HF := Lib.hid hf
        have t0 : (f xs == 0) = false := by simpa using hf
        clear ht hf hln
        generalize f xs = y at *
        go_wp2_with fail
        refine HC.out.mono ?_
        rintro e w1 ⟨rfl, b1, k1⟩
        have HB1 := Lib.hid b1; have HK1 := Lib.hid k1; clear b1 k1
        go_wp2
        go_ret
        exact ⟨ret_i64 HE.out.symm, HB.out.trans HB1.out, _, HK1.out, fun h => absurd (HE.out.symm.trans h) HF.out⟩
    · have HT : Hid (firstE f (gs R) = 0 ∧ m = sumL (gs R)) := by
        rw [List.drop_of_length_le (by rw [HN.out]; omega)] at ht hs
        exact ⟨ht, by simpa [gs, sumL] using hs⟩
      have HK := Lib.hid hbox
      clear ht hbox hs
      have HB := Lib.hid hbel; clear hbel
      go_wp2
      go_ret
      exact ⟨ret_i64 HT.out.1.symm, HB.out, _, HK.out, fun _ => HT.out.2⟩
def grE (g : List (List Int)) : Int := if 100 < g.length then 2 else if firstE (rsE (g.length : Int)) g = 0 ∧ 600 < sumL g then 2 else firstE (rsE (g.length : Int)) g
set_option maxHeartbeats 1000000 in
theorem gchk_any (R : List Rw) (n : Nat) (hn : R.length = n) (hn2 : n ≤ 140737488355328) (A : Option Addr) (c : Nat) (w : World) (h : RdG w w.heap.size A R) :
    Calls Tryz.prog 87 #[.agg #[.slice A n c]] w fun e w' => e = .returned (.int .i64 (grE (gs R))) ∧ Below w.heap.size w w' := by
  unfold grE
  rw [gs_length, hn]
  by_cases h100 : 100 < n
  · rw [if_pos h100]
    have t1 : decide ((100 : Int) < (n : Int)) = true := by simp; omega
    go_enter Tryz.func87, Tryz.ntmps87
    go_wp2
    go_ret
    exact ⟨rfl, one_below _ _⟩
  · rw [if_neg h100]
    obtain ⟨V, hV⟩ : ∃ V, (w.alloc (.cells #[.slice A n c] 42)).alloc (.cells #[.int .i64 0] 3) = V := ⟨_, rfl⟩
    have hs1 : (w.alloc (.cells #[.slice A n c] 42)).heap.size = w.heap.size + 1 := World.size_alloc _ _
    have hB0 : Below w.heap.size w V := hV ▸ (one_below w _).trans ((one_below _ _).mono (by omega))
    have hg0 : V.heap[w.heap.size]? = some (.cells #[.slice A n c] 42 (0, 0)) := by
      rw [← hV, (one_below _ _).block _ (by omega)]; exact World.alloc_heap_new w _
    have hm0 : V.heap[w.heap.size + 1]? = some (.cells #[.int .i64 0] 3 (0, 0)) := by
      rw [← hV, ← hs1]; exact World.alloc_heap_new _ _
    have hsV : w.heap.size + 1 < V.heap.size := (Array.getElem?_eq_some_iff.1 hm0).1
    have hRV : RdG V (w.heap.size + 1) A R := h.below hB0 (by omega)
    have HC := Lib.hid (each_rows 129 (w.heap.size + 1) #[.pointer (some ⟨w.heap.size + 1, 0, none⟩), .pointer (some ⟨w.heap.size, 0, none⟩)] (rsE (n : Int)) R n hn (by omega) A c V hRV hm0 entersChk1 (fun r m W hr hm hW hbx =>
      chk1_any n (by omega) r.2.2 _ rfl (h.2 r hr).2 r.1 r.2.1 m hm (w.heap.size + 1) w.heap.size (by omega) A c W hbx ((hW.block _ (by omega)).trans hg0) ((hRV.2 r hr).1.below hW (Nat.le_refl _))))
    have kg : V.cell? ⟨w.heap.size, 0, none⟩ = some (.slice A n c) := (cell_at hg0 _).trans rfl
    have HB0 := Lib.hid hB0
    have HS := Lib.hid hsV
    generalize hE : firstE (rsE (n : Int)) (gs R) = r at *
    generalize sumL (gs R) = sm at *
    have t1 : decide ((100 : Int) < (n : Int)) = false := by simp; omega
    have HV := Lib.hid hV
    obtain ⟨q, hq⟩ : ∃ q : Int, (if r = 0 ∧ 600 < sm then 2 else r) = q := ⟨_, rfl⟩
    rw [hq]
    have HQ := Lib.hid hq
    clear hq
    clear hn hn2 h hs1 hB0 hg0 hm0 hsV hRV hE hV kg
    go_enter Tryz.func87, Tryz.ntmps87
    go_wp2_with fail
    rw [HV.out]
    refine HC.out.mono ?_
    rintro e w1 ⟨rfl, b1, m, k1, hm⟩
    have km : w1.cell? ⟨w.heap.size + 1, 0, none⟩ = some (.int .i64 (m : Int)) := (cell_at k1 _).trans rfl
    have HB1 : Hid (Below w.heap.size w w1) := HB0.out.trans (b1.mono (by omega))
    clear b1 k1
    by_cases h0 : r = 0
    · obtain rfl := hm h0
      subst h0
      clear hm
      by_cases h6 : 600 < m
      · have HQ2 : Hid (q = 2) := by show _ = _; rw [← HQ.out, if_pos ⟨rfl, h6⟩]
        have t2 : decide ((600 : Int) < (m : Int)) = true := by simp; omega
        go_wp2
        go_ret
        exact ⟨ret_i64 HQ2.out.symm, HB1.out⟩
      · have HQ2 : Hid (q = 0) := by show _ = _; rw [← HQ.out, if_neg (fun q => h6 q.2)]
        have t2 : decide ((600 : Int) < (m : Int)) = false := by simp; omega
        go_wp2
        go_ret
        exact ⟨ret_i64 HQ2.out.symm, HB1.out⟩
    · have HQ2 : Hid (q = r) := by show _ = _; rw [← HQ.out, if_neg (fun q => h0 q.1)]
      have t0 : (r == 0) = false := by simpa using h0
      clear hm h0
      go_wp2
      go_ret
      exact ⟨ret_i64 HQ2.out.symm, HB1.out⟩
end
section
set_option linter.unusedVariables false
theorem ckO_zero (ok : Int → Bool) (v x : Int) : ckO ok v x = 0 ↔ ok x = true ∧ v < x := by
  unfold ckO
  cases h : ok x
  · simp
  · by_cases h2 : x ≤ v
    · simp [h2]
    · simp [h2]; omega
theorem rs_zero (n : Int) : ∀ (xs : List Int) (v : Int), eachS (ckO (okG n)) id v xs = 0 → ∃ l, xs = ns l ∧ (∀ x ∈ l, v < (x : Int) ∧ (x : Int) < n) ∧ l.Pairwise (· < ·)
  | [], v, _ => ⟨[], rfl, by simp, .nil⟩
  | x :: t, v, h => by
    rw [eachS_cons] at h
    by_cases h0 : ckO (okG n) v x = 0
    · rw [if_pos h0] at h
      obtain ⟨h1, h2⟩ := (ckO_zero _ _ _).1 h0
      unfold okG at h1
      simp only [decide_eq_true_eq] at h1
      obtain ⟨l, hl, hb, hp⟩ := rs_zero n t x h
      refine ⟨x.toNat :: l, ?_, ?_, ?_⟩
      · rw [ns_cons, hl, Int.toNat_of_nonneg h1.1]
      · intro y hy
        rcases List.mem_cons.1 hy with rfl | hy
        · omega
        · have := hb y hy; omega
      · refine List.pairwise_cons.2 ⟨fun y hy => ?_, hp⟩
        have := hb y hy; omega
    · rw [if_neg h0] at h; exact absurd h h0
theorem rs_ok (n : Int) : ∀ (l : List Nat) (v : Int), (∀ x ∈ l, v < (x : Int) ∧ (x : Int) < n) → l.Pairwise (· < ·) → eachS (ckO (okG n)) id v (ns l) = 0
  | [], v, _, _ => rfl
  | x :: t, v, hb, hp => by
    obtain ⟨h1, h2⟩ := List.pairwise_cons.1 hp
    have hx := hb x (by simp)
    rw [ns_cons, eachS_cons, if_pos ((ckO_zero _ _ _).2 ⟨by unfold okG; simp; omega, hx.1⟩)]
    exact rs_ok n t x (fun y hy => ⟨by have := h1 y hy; omega, (hb y (by simp [hy])).2⟩) h2
theorem first_zero (f : List Int → Int) : ∀ g : List (List Int), firstE f g = 0 ↔ ∀ l ∈ g, f l = 0
  | [] => by simp [firstE]
  | x :: t => by
    rw [firstE_cons]
    by_cases h : f x = 0
    · rw [if_pos h, first_zero f t]
      exact ⟨fun h1 l hl => (List.mem_cons.1 hl).elim (fun e => e ▸ h) (h1 l), fun h1 l hl => h1 l (by simp [hl])⟩
    · rw [if_neg h]
      exact ⟨fun h1 => absurd h1 h, fun h1 => h1 x (by simp)⟩
theorem sumL_arcs : ∀ (g : List (List Nat)) (o : Nat), sumL (g.map ns) = (arcs o g).length
  | [], o => rfl
  | l :: t, o => by
    unfold arcs
    rw [List.map_cons, sumL_cons, ns_length, List.length_append, List.length_map, sumL_arcs t (o + 1)]
theorem grE_zero (xs : List (List Int)) (h : grE xs = 0) : ∃ g, xs = g.map ns ∧ GOk g := by
  unfold grE at h
  by_cases h1 : 100 < xs.length
  · rw [if_pos h1] at h; cases h
  · rw [if_neg h1] at h
    by_cases h2 : firstE (rsE (xs.length : Int)) xs = 0 ∧ 600 < sumL xs
    · rw [if_pos h2] at h; cases h
    · rw [if_neg h2] at h
      have h3 := (first_zero _ _).1 h
      have h4 : ∀ xs' : List (List Int), (∀ l ∈ xs', rsE (xs.length : Int) l = 0) → ∃ g : List (List Nat), xs' = g.map ns ∧ ∀ l ∈ g, l.Pairwise (· < ·) ∧ ∀ x ∈ l, (x : Int) < (xs.length : Int) := by
        intro xs'
        induction xs' with
        | nil => intro _; exact ⟨[], rfl, by simp⟩
        | cons l t ih =>
          intro hl
          obtain ⟨g, e, hg⟩ := ih (fun m hm => hl m (by simp [hm]))
          obtain ⟨m, em, hb, hp⟩ := rs_zero _ l (-1) (hl l (by simp))
          refine ⟨m :: g, by rw [List.map_cons, e, em], fun l' hl' => ?_⟩
          rcases List.mem_cons.1 hl' with rfl | hl'
          · exact ⟨hp, fun x hx => (hb x hx).2⟩
          · exact hg l' hl'
      obtain ⟨g, e, hg⟩ := h4 xs h3
      have hln : g.length = xs.length := by rw [e, List.length_map]
      refine ⟨g, e, ⟨by omega, fun l hl => (hg l hl).1, fun l hl x hx => by have := (hg l hl).2 x hx; omega, ?_⟩⟩
      rw [← sumL_arcs g 0, ← e]
      have : ¬ 600 < sumL xs := fun q => h2 ⟨h, q⟩
      omega
theorem grE_ok (g : List (List Nat)) (h : GOk g) : grE (g.map ns) = 0 := by
  unfold grE
  have hl : (g.map ns).length = g.length := List.length_map ..
  rw [hl, if_neg (by have := h.nodes; omega), if_neg (by rw [sumL_arcs g 0]; have := h.many; omega)]
  refine (first_zero _ _).2 fun l hl => ?_
  obtain ⟨m, hm, rfl⟩ := List.mem_map.1 hl
  exact rs_ok _ m (-1) (fun x hx => ⟨by omega, by have := h.bd m hm x hx; omega⟩) (h.ris m hm)
end
section
section
open Go.RowKit
end
section
set_option maxRecDepth 100000
set_option linter.unusedVariables false
open Go.RowKit Go.Shelf
def SameRelI (w : World) (xs ys : List Int) (p : Value) (wr : World) : Prop := ∃ i : Nat, i ≤ xs.length ∧ p = .int .i64 (i : Int) ∧ xs.take i = ys.take i ∧ Below w.heap.size w wr
theorem take_succ_sameI (xs ys : List Int) (i : Nat) (h1 : i < xs.length) (h2 : i < ys.length) (h : xs.take i = ys.take i) (he : xs[i]?.getD 0 = ys[i]?.getD 0) : xs.take (i + 1) = ys.take (i + 1) := by
  rw [List.take_succ_eq_append_getElem h1, List.take_succ_eq_append_getElem h2, h]
  rw [List.getElem?_eq_getElem h1, List.getElem?_eq_getElem h2] at he
  simp only [Option.getD_some] at he
  rw [he]
theorem ne_of_atI (xs ys : List Int) (i : Nat) (he : xs[i]?.getD 0 ≠ ys[i]?.getD 0) : ¬ xs = ys := fun h => he (by rw [h])
set_option maxHeartbeats 1000000 in
theorem same_ints (w : World) (A B : Option Addr) (c d : Nat) (xs ys : List Int) (n : Nat) (hn : xs.length = n) (hm : ys.length = n) (h2 : n ≤ 9223372036854775807) (hA : RdV w w.heap.size A (zc xs)) (hB : RdV w w.heap.size B (zc ys)) :
    Calls Tryz.prog 21 #[.slice A n c, .slice B n d] w fun e w' => e = .returned (.bool (decide (xs = ys))) ∧ Below w.heap.size w w' := by
  have HA := Lib.hid hA; clear hA
  have HB := Lib.hid hB; clear hB
  have HN := Lib.hid hn; clear hn
  have HM := Lib.hid hm; clear hm
  have t0 : ((n : Int) != (n : Int)) = false := by simp
  go_enter Tryz.func21, Tryz.ntmps21
  go_wp2
  go_loopw [5] (fun p wr => SameRelI w xs ys p wr) (fun p _ => n - (intOf p).toNat)
  case atStart => exact ⟨0, Nat.zero_le _, rfl, rfl, Below.refl _ _⟩
  case round =>
    obtain ⟨i, hi, hp, ht, hb⟩ := hrel
    subst hp
    rw [HN.out] at hi
    by_cases hlt : i < n
    · obtain ⟨b1, o1, rfl, hb1, hc1⟩ := HA.out.at_ (zc_get xs i (by rw [HN.out]; exact hlt))
      obtain ⟨b2, o2, rfl, hb2, hc2⟩ := HB.out.at_ (zc_get ys i (by rw [HM.out]; exact hlt))
      have e1 := (hb.cell (p := ⟨b1, o1 + i, none⟩) hb1).trans hc1
      have e2 := (hb.cell (p := ⟨b2, o2 + i, none⟩) hb2).trans hc2
      have hstep := fun he => take_succ_sameI xs ys i (by rw [HN.out]; exact hlt) (by rw [HM.out]; exact hlt) ht he
      have hno := ne_of_atI xs ys i
      clear hc1 hc2 ht
      generalize xs[i]?.getD 0 = x at *
      generalize ys[i]?.getD 0 = y at *
      by_cases hxy : x = y
      · subst hxy
        have HT := Lib.hid (hstep rfl)
        clear hstep hno
        have t1 : (x != x) = false := by simp
        go_wp2
        go_region
        go_wp2
        go_roundw
        case rel => exact ⟨i + 1, by rw [HN.out]; omega, by go_num, HT.out, hb.drew⟩
        case measure => simp [intOf]; omega
      · have HT := Lib.hid (hno hxy)
        clear hstep hno
        have t1 : (x != y) = true := by simpa using hxy
        clear hxy
        go_wp2
        go_region
        go_wp2
        go_ret
        exact ⟨by rw [decide_eq_false HT.out]; rfl, hb.drew⟩
    · have HT : Hid (xs = ys) := by
        have e : i = n := by omega
        rw [e, List.take_of_length_le (by rw [HN.out]; omega), List.take_of_length_le (by rw [HM.out]; omega)] at ht
        exact ht
      clear ht
      go_wp2
      go_ret
      exact ⟨by rw [decide_eq_true HT.out]; rfl, hb⟩
end
end
section
open Go.ChangeShapes Go.WideShapes Go.ChangeAt Go.RowKit Go.Joins
theorem cells3i : Tryz.prog.cellsOf 3 = 1 := by kernel_rfl
end
section
set_option maxRecDepth 100000
set_option linter.unusedVariables false
open Go.RowKit Go.Shelf
def HiRel (xs : List Int) (z : Int) (w : World) (p : Value) (wr : World) : Prop := ∃ i : Nat, i ≤ xs.length ∧ p = .int .i64 (i : Int) ∧ (∀ j, j < i → xs[j]?.getD 0 ≠ z) ∧ wr = w
set_option maxHeartbeats 1000000 in
theorem hasInt_any (xs : List Int) (n : Nat) (hn : xs.length = n) (hn2 : n ≤ 9223372036854775807) (z : Int) (r : Bool) (hr : (r = true ∧ z ∈ xs) ∨ (r = false ∧ z ∉ xs)) (A : Option Addr) (c : Nat) (w : World) (h : RdV w w.heap.size A (zc xs)) :
    Calls Tryz.prog 45 #[.slice A n c, .int .i64 z] w fun e w' => e = .returned (.bool r) ∧ w' = w := by
  have HX := Lib.hid h; have HN := Lib.hid hn; have HR := Lib.hid hr
  clear h hn hr
  go_enter Tryz.func45, Tryz.ntmps45
  go_wp2
  go_loopw [5] (fun p wr => HiRel xs z w p wr) (fun p _ => n - (intOf p).toNat)
  case atStart => exact ⟨0, Nat.zero_le _, rfl, fun j hj => absurd hj (Nat.not_lt_zero _), rfl⟩
  case round =>
    obtain ⟨i, hi, rfl, hno, rfl⟩ := hrel
    rw [HN.out] at hi
    by_cases hlt : i < n
    · have hin : i < xs.length := by rw [HN.out]; exact hlt
      obtain ⟨b, off, rfl, hb, hc⟩ := HX.out.at_ (zc_get xs i hin)
      have hmem : xs[i]?.getD 0 ∈ xs := by rw [List.getElem?_eq_getElem hin]; exact List.getElem_mem hin
      have HNo := Lib.hid hno
      have hstep : xs[i]?.getD 0 ≠ z → ∀ j, j < i + 1 → xs[j]?.getD 0 ≠ z := fun hne j hj => by
        rcases Nat.lt_or_ge j i with h | h
        · exact HNo.out j h
        · obtain rfl : j = i := by omega
          exact hne
      clear hno HNo
      generalize xs[i]?.getD 0 = x at *
      by_cases hx : x = z
      · have hr : r = true := by
          rcases HR.out with ⟨h, _⟩ | ⟨_, h⟩
          · exact h
          · exact absurd (hx ▸ hmem) h
        have t1 : (x == z) = true := by simpa using hx
        have HRr := Lib.hid hr
        clear hr hstep hmem hx HR
        go_wp2
        go_ret
        exact ⟨by rw [HRr.out]; rfl, rfl⟩
      · have HSt := Lib.hid (hstep hx)
        have t1 : (x == z) = false := by simpa using hx
        clear hstep hmem hx
        go_wp2
        go_roundw
        case rel => exact ⟨i + 1, by rw [HN.out]; omega, by go_num, HSt.out, rfl⟩
        case measure => simp [intOf]; omega
    · have hr : r = false := by
        rcases HR.out with ⟨_, h⟩ | ⟨h, _⟩
        · obtain ⟨j, hj, he⟩ := List.getElem_of_mem h
          exact absurd (by rw [List.getElem?_eq_getElem hj]; exact he) (hno j (by rw [HN.out] at hj; omega))
        · exact h
      have HRr := Lib.hid hr
      clear hr hno HR
      go_wp2
      go_ret
      exact ⟨by rw [HRr.out]; rfl, rfl⟩
end
end Go.Proofs.YtbddcokjkdoaaaaGreat
