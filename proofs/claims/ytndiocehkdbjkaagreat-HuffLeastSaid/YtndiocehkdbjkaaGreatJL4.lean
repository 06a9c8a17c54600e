/- Texts of this proof, one behind the other (HOff, HGrp, HGof, KLay, KCmp, KCmpW, KSw, KSort, HSrt, HDeep, HDeep1, HChk); each fact names its conditions. -/
import Derived.Test.YtndiocehkdbjkaaGreatJLHJoi
import Derived.Test.YtndiocehkdbjkaaGreatJL2
import Derived.Test.YtndiocehkdbjkaaGreatRows
import Derived.Shelf.SlSortCmp.WholeK
import Derived.Shelf.SlicesG.Cmp
import Derived.Deep.RegionHeld3
import Derived.Sort.Grow
import Derived.Shelf.SlSortCmp.NoneTotal
import Derived.Laws.AppendOwnNone
import Derived.Deep.AppendLies
namespace Go.Proofs.YtndiocehkdbjkaaGreat

section
set_option maxRecDepth 100000
set_option linter.unusedVariables false
open Go.RowKit Go.Shelf

/-- n elements from cell off on of block g; room for cap in all, to the block's end. -/
def OwnAt (w : World) (base : Nat) (e : TypeId) (size g off n cap : Nat) (xs : List Value) : Prop :=
  xs.length = n * size ∧ base ≤ g ∧ n ≤ cap ∧ cap ≤ maxLen ∧ ∃ cur : Array Value, w.heap[g]? = some (.cells cur e (0, 0)) ∧ off + cap * size ≤ cur.size ∧ (cur.toList.drop off).take (n * size) = xs

theorem OwnAt.of_row {w : World} {base : Nat} {e : TypeId} {size g n cap : Nat} {xs : List Value} (h : w.ownsRow base e size (.slice (some ⟨g, 0, none⟩) n cap) n xs) : OwnAt w base e size g 0 n cap xs := by
  refine ⟨h.1, ?_⟩
  rcases h.2 with ⟨h, _⟩ | ⟨g', cap', cur, hv, hb, hg, h1, h2, h3, h4⟩
  · cases h
  · simp only [Value.slice.injEq, Option.some.injEq, Addr.mk.injEq, and_true, true_and] at hv
    obtain ⟨rfl, rfl⟩ := hv
    exact ⟨hb, h1, h2, cur, hg, by omega, by simpa using h4⟩
theorem OwnAt.same {w w' : World} {base : Nat} {e : TypeId} {size g off n cap : Nat} {xs : List Value} (h : OwnAt w base e size g off n cap xs) (hk : w'.heap[g]? = w.heap[g]?) : OwnAt w' base e size g off n cap xs := by
  obtain ⟨h1, h2, h3, h4, cur, h5, h6⟩ := h
  exact ⟨h1, h2, h3, h4, cur, hk.trans h5, h6⟩
theorem OwnAt.lt {w : World} {base : Nat} {e : TypeId} {size g off n cap : Nat} {xs : List Value} (h : OwnAt w base e size g off n cap xs) : g < w.heap.size := by
  obtain ⟨h1, h2, h3, h4, cur, h5, h6⟩ := h
  exact (Array.getElem?_eq_some_iff.1 h5).1
theorem OwnAt.type {w : World} {base : Nat} {e : TypeId} {size g off n cap : Nat} {xs : List Value} (h : OwnAt w base e size g off n cap xs) : ∃ cur, w.heap[g]? = some (.cells cur e (0, 0)) := by
  obtain ⟨h1, h2, h3, h4, cur, h5, h6⟩ := h
  exact ⟨cur, h5⟩
theorem OwnAt.cell {w : World} {base : Nat} {e : TypeId} {size g off n cap : Nat} {xs : List Value} (h : OwnAt w base e size g off n cap xs) {j : Nat} {u : Value} (hu : xs[j]? = some u) : w.cell? ⟨g, off + j, none⟩ = some u ∧ w.frozen? ⟨g, off + j, none⟩ = false := by
  obtain ⟨h1, h2, h3, h4, cur, h5, h6, h7⟩ := h
  rw [← h7, List.getElem?_take] at hu
  split at hu
  · rw [List.getElem?_drop] at hu
    exact ⟨by rw [cell_atC h5]; simpa using hu, by simp [World.frozen?, h5]⟩
  · cases hu
/-- Without its first k elements. -/
theorem OwnAt.drop {w : World} {base : Nat} {e : TypeId} {size g off n cap : Nat} {ks xs : List Value} (k : Nat) (h : OwnAt w base e size g off (k + n) (k + cap) (ks ++ xs)) (hk : ks.length = k * size) : OwnAt w base e size g (off + k * size) n cap xs := by
  obtain ⟨h1, h2, h3, h4, cur, h5, h6, h7⟩ := h
  rw [List.length_append, hk, Nat.add_mul] at h1
  refine ⟨by omega, h2, by omega, by omega, cur, h5, by rw [Nat.add_mul] at h6; omega, ?_⟩
  have h8 : ((cur.toList.drop off).take ((k + n) * size)).drop (k * size) = xs := by rw [h7, ← hk]; exact List.drop_left
  rw [List.drop_take, List.drop_drop, Nat.add_mul, Nat.add_sub_cancel_left] at h8
  rw [← h8]

theorem add_off (b o j : Nat) : (⟨b, o, none⟩ : Addr).add j = ⟨b, o + j, none⟩ := by unfold Addr.add; split <;> simp_all

theorem news_rowC (w : World) (vs : List Value) (T : TypeId) : ∀ j u, vs[j]? = some u → (w.alloc (.cells vs.toArray T)).cell? ((⟨w.heap.size, 0, none⟩ : Addr).add j) = some u := by
  intro j u hu
  rw [add_off, cell_atC (World.alloc_heap_new w (.cells vs.toArray T)), Nat.zero_add]
  simpa using hu
section
variable {P : Program} (w : World)
theorem run_append_room_off (t ty e : TypeId) (i : TypeInfo) (ht : P.underlying t = some (.slice e)) (hi : P.info? e = some i)
    (g off sLen sCap : Nat) (cur : Array Value) (hg : w.heap[g]? = some (.cells cur e (0, 0)))
    (a : Addr) (m c : Nat) (news : List Value) (hl : news.length = m * i.size) (hnews : ∀ j u, news[j]? = some u → w.cell? (a.add j) = some u) (h1 : ∀ u ∈ news, u.oneCell' = true)
    (hroom : sLen + m ≤ sCap) (hfit : off + sLen * i.size + news.length ≤ cur.size) :
    (Builtin.append_ #[t, t] ty #[.slice (some ⟨g, off, none⟩) sLen sCap, .slice (some a) m c]).run P w =
      .ok (.slice (some ⟨g, off, none⟩) (sLen + m) sCap) (w.setRow g (cur.toList.take (off + sLen * i.size) ++ news ++ cur.toList.drop (off + sLen * i.size + news.length)).toArray) := by
  have hf := run_firstCells_some (P := P) w i.size m a m c news hl hnews
  have hst := run_storeCells_at P g (off + sLen * i.size) e news 0 cur w hg (by simpa using hfit) h1
  simp only [Nat.add_zero] at hst
  simp [Builtin.append_, run_underlying ht, sizeOf, typeInfo, hi, Builtin.lenOf, hroom, hf, add_off, hst]

theorem run_append_at (base : Nat) (t ty e : TypeId) (i : TypeInfo) (z : Value) (size bytes : Nat) (ht : P.underlying t = some (.slice e)) (hi : P.info? e = some i) (hz : i.zero = some z)
    (hsize : i.size = size) (hby : i.bytes = bytes) (hzs : z.cells.size = size) (hsz : 0 < size)
    (g off n cap : Nat) (xs : List Value) (hown : OwnAt w base e size g off n cap xs)
    (a : Addr) (m c : Nat) (news : List Value) (hl : news.length = m * size) (hnews : ∀ j u, news[j]? = some u → w.cell? (a.add j) = some u) (h1 : ∀ u ∈ news, u.oneCell' = true)
    (h63 : n + m ≤ maxLen) (hbytes : (n + m) * bytes ≤ 140737488355328) (hbase : base ≤ w.heap.size) :
    ∃ g' off' cap' w', (Builtin.append_ #[t, t] ty #[.slice (some ⟨g, off, none⟩) n cap, .slice (some a) m c]).run P w = .ok (.slice (some ⟨g', off', none⟩) (n + m) cap') w' ∧ OwnAt w' base e size g' off' (n + m) cap' (xs ++ news) ∧ w.grownBy w' (some g) ∧ (g' = g ∨ w.heap.size ≤ g') := by
  subst hsize
  subst hby
  have hsmall : n + m ≤ 9223372036854775807 := by simp only [maxLen] at h63; omega
  have hcell : ∀ j u, xs[j]? = some u → w.cell? ((⟨g, off, none⟩ : Addr).add j) = some u := fun j u hu => by rw [add_off]; exact (hown.cell hu).1
  obtain ⟨q1, hb, hnc, hcm, cur, hg, hcs, htake⟩ := hown
  have hlen : (xs ++ news).length = (n + m) * i.size := by rw [List.length_append, q1, hl, Nat.add_mul]
  by_cases hroom : n + m ≤ cap
  · have hfit : off + n * i.size + news.length ≤ cur.size := by
      have := Nat.mul_le_mul_right i.size hroom
      rw [Nat.add_mul] at this
      rw [hl]; omega
    have hr := run_append_room_off (P := P) w t ty e i ht hi g off n cap cur hg a m c news hl hnews h1 hroom hfit
    refine ⟨_, _, _, _, hr, ⟨hlen, hb, hroom, hcm, _, setRow_heap w g cur _ e _ hg, ?_, ?_⟩, ⟨rfl, rfl, rfl, by simp, fun k _ hk => setRow_other w g k _ (fun e => hk (by simp [e]))⟩, .inl rfl⟩
    · simp only [List.size_toArray, List.length_append, List.length_take, List.length_drop, Array.length_toList]
      omega
    · show (List.drop off (cur.toList.take (off + n * i.size) ++ news ++ cur.toList.drop (off + n * i.size + news.length))).take ((n + m) * i.size) = xs ++ news
      have ho : off ≤ (cur.toList.take (off + n * i.size)).length := by
        rw [List.length_take, Array.length_toList]; omega
      rw [List.append_assoc, List.drop_append_of_le_length ho, List.drop_take, Nat.add_sub_cancel_left, htake, ← List.append_assoc, ← hlen]
      exact List.take_left
  · have hge := grownCap_ge w (n + m) cap e
    have hcm2 : grownCap w (n + m) cap e ≤ maxLen := grownCap_le_maxLen w (n + m) cap e h63
    have hr := run_append_grow (P := P) w t ty e i z ht hi hz ⟨g, off, none⟩ n cap xs q1 hcell a m c news hl hnews (by omega) (by omega) (growslice_fits (by omega) hbytes)
    refine ⟨w.heap.size, 0, _, _, hr, ⟨hlen, hbase, hge, hcm2, _, World.alloc_heap_new w.drew _, ?_, ?_⟩, ⟨rfl, rfl, rfl, by simp, fun k hk _ => Below.heap_alloc w.drew _ k hk⟩, .inr (Nat.le_refl _)⟩
    · simp only [Array.size_append, List.size_toArray, size_zeroCells, hzs, q1, hl, ← Nat.add_mul]
      rw [Nat.zero_add]
      refine Nat.mul_le_mul_right _ ?_
      omega
    · simp only [Array.toList_append, List.append_assoc, List.drop_zero]
      rw [← List.append_assoc, ← hlen]
      exact List.take_left

theorem step_append_at {ops : Array Oper} {o : Oper} {a : Act} {K : Act → World → Prop} {Q : Exit → Act → World → Prop} {E : Prop} (hgd : o.guard = none) (s x : Operand) (t : TypeId)
    (ho : o.op = .call { callee := .builtin .append, args := #[s, x], argTypes := #[t, t] })
    (base : Nat) (e : TypeId) (i : TypeInfo) (z : Value) (size bytes : Nat) (ht : P.underlying t = some (.slice e)) (hi : P.info? e = some i) (hz : i.zero = some z)
    (hsize : i.size = size) (hby : i.bytes = bytes) (hzs : z.cells.size = size) (hsz : 0 < size)
    (g off n cap : Nat) (xs : List Value) (hs : a.eval s = .slice (some ⟨g, off, none⟩) n cap) (hown : OwnAt w base e size g off n cap xs)
    (ad : Addr) (m c : Nat) (news : List Value) (hx : a.eval x = .slice (some ad) m c) (hl : news.length = m * size) (hnews : ∀ j u, news[j]? = some u → w.cell? (ad.add j) = some u) (h1 : ∀ u ∈ news, u.oneCell' = true)
    (h63 : n + m ≤ maxLen) (hbytes : (n + m) * bytes ≤ 140737488355328) (hbase : base ≤ w.heap.size)
    (h : ∀ g' off' cap' w', OwnAt w' base e size g' off' (n + m) cap' (xs ++ news) → w.grownBy w' (some g) → (g' = g ∨ w.heap.size ≤ g') → K (a.put o.dst (.slice (some ⟨g', off', none⟩) (n + m) cap')) w') : if Region.wanted o (yielded ops a.tmps) = true then Oper.wp P o a w K Q else E := by
  have hw : Region.wanted o (yielded ops a.tmps) = true := by simp [Region.wanted, hgd]
  rw [if_pos hw]
  obtain ⟨g', off', cap', w', hr, h2, h3, h4⟩ := run_append_at (P := P) w base t o.type e i z size bytes ht hi hz hsize hby hzs hsz g off n cap xs hown ad m c news hl hnews h1 h63 hbytes hbase
  unfold Oper.wp execOp
  simp only [ho, resolve, invoke, builtin, Sem.run_bind, Sem.run_pure, Result.andThen_ok, List.map_toArray, List.map_cons, List.map_nil, hs, hx, hr]
  exact h g' off' cap' w' h2 h3 h4
theorem wpList_append_at {ops : Array Oper} {rest : List Oper} {o : Oper} {a : Act} {Q : Exit → Act → World → Prop} (hgd : o.guard = none) (s x : Operand) (t : TypeId)
    (ho : o.op = .call { callee := .builtin .append, args := #[s, x], argTypes := #[t, t] })
    (base : Nat) (e : TypeId) (i : TypeInfo) (z : Value) (size bytes : Nat) (ht : P.underlying t = some (.slice e)) (hi : P.info? e = some i) (hz : i.zero = some z)
    (hsize : i.size = size) (hby : i.bytes = bytes) (hzs : z.cells.size = size) (hsz : 0 < size)
    (g off n cap : Nat) (xs : List Value) (hs : a.eval s = .slice (some ⟨g, off, none⟩) n cap) (hown : OwnAt w base e size g off n cap xs)
    (ad : Addr) (m c : Nat) (news : List Value) (hx : a.eval x = .slice (some ad) m c) (hl : news.length = m * size) (hnews : ∀ j u, news[j]? = some u → w.cell? (ad.add j) = some u) (h1 : ∀ u ∈ news, u.oneCell' = true)
    (h63 : n + m ≤ maxLen) (hbytes : (n + m) * bytes ≤ 140737488355328) (hbase : base ≤ w.heap.size)
    (h : ∀ g' off' cap' w', OwnAt w' base e size g' off' (n + m) cap' (xs ++ news) → w.grownBy w' (some g) → (g' = g ∨ w.heap.size ≤ g') → wpList P ops Q rest (a.put o.dst (.slice (some ⟨g', off', none⟩) (n + m) cap')) w') : wpList P ops Q (o :: rest) a w :=
  wpList_plain hgd fun _ hK => by
    obtain ⟨g', off', cap', w', hr, h2, h3, h4⟩ := run_append_at (P := P) w base t o.type e i z size bytes ht hi hz hsize hby hzs hsz g off n cap xs hown ad m c news hl hnews h1 h63 hbytes hbase
    unfold Oper.wp execOp
    simp only [ho, resolve, invoke, builtin, Sem.run_bind, Sem.run_pure, Result.andThen_ok, List.map_toArray, List.map_cons, List.map_nil, hs, hx, hr]
    exact hK _ _ (h g' off' cap' w' h2 h3 h4)
end
end

section
set_option linter.unusedVariables false

theorem gsort_uniq {l m : List Gp} (hp : m.Perm l) (hs : m.Pairwise gle) (hn : (l.map (fun g : Gp => g.2.1)).Nodup) : m = gsort l := by
  refine uniq gle _ _ (hp.trans (gsort_perm l).symm) hs (gsort_sorted l) (fun a ha b hb h k => ?_)
  have ha' := hp.subset ha
  have hb' := hp.subset hb
  have e : a.2.1 = b.2.1 := by unfold gle at h k; omega
  obtain ⟨i, hi, rfl⟩ := List.getElem_of_mem ha'
  obtain ⟨j, hj, rfl⟩ := List.getElem_of_mem hb'
  by_cases hij : i = j
  · subst hij; rfl
  · exfalso
    have hpw := List.pairwise_iff_getElem.1 hn
    rcases Nat.lt_or_gt_of_ne hij with hlt | hlt
    · exact hpw i j (by simpa using hi) (by simpa using hj) hlt (by simpa using e)
    · exact hpw j i (by simpa using hj) (by simpa using hi) hlt (by simpa using e.symm)
/-- Groups as they come. -/
def Gok (many : Nat) (gs : List Gp) : Prop := (gs.map (fun g : Gp => g.2.1)).Nodup ∧ (∀ g ∈ gs, g.2.1 < many ∧ g.1 ≤ 1048576 * g.2.2.length ∧ ∀ s ∈ g.2.2, s < many) ∧ (flat gs).length ≤ 64
theorem groups_least : ∀ (os : List Nat) (i : Nat), (groups i os).map (fun g : Gp => g.2.1) = usd i os
  | [], i => rfl
  | n :: t, i => by
    unfold groups usd
    split
    · exact groups_least t (i + 1)
    · rw [List.map_cons, groups_least t (i + 1)]
theorem groups_wt : ∀ (os : List Nat) (i : Nat), (∀ x ∈ os, x ≤ 1048576) → ∀ g ∈ groups i os, g.1 ≤ 1048576
  | [], i, _, g, hg => by simp [groups] at hg
  | n :: t, i, h, g, hg => by
    unfold groups at hg
    split at hg
    · exact groups_wt t (i + 1) (fun x hx => h x (by simp [hx])) g hg
    · rcases List.mem_cons.1 hg with rfl | hg
      · exact h n (by simp)
      · exact groups_wt t (i + 1) (fun x hx => h x (by simp [hx])) g hg
theorem usd_len : ∀ (os : List Nat) (i : Nat), (usd i os).length ≤ os.length
  | [], i => Nat.le_refl _
  | n :: t, i => by
    have := usd_len t (i + 1)
    unfold usd
    split <;> simp <;> omega
theorem groups_ok (os : List Nat) (h64 : os.length ≤ 64) (hb : ∀ x ∈ os, x ≤ 1048576) : Gok os.length (groups 0 os) := by
  refine ⟨?_, fun g hg => ?_, ?_⟩
  · rw [groups_least]; exact usd_nodup os
  · have h1 := groups_one os 0 g hg
    have h2 := groups_wt os 0 hb g hg
    have h3 : g.2.1 ∈ usd 0 os := by rw [← groups_least]; exact List.mem_map.2 ⟨g, hg, rfl⟩
    have h4 := oAt_lt ((usd_pos os g.2.1).1 h3)
    rw [h1]
    exact ⟨h4, by simpa using h2, fun s hs => by rw [List.mem_singleton] at hs; omega⟩
  · rw [flat_groups]; exact Nat.le_trans (usd_len os 0) h64
theorem Gok.perm {many : Nat} {gs hs : List Gp} (h : Gok many gs) (p : hs.Perm gs) : Gok many hs :=
  ⟨((p.map _).nodup_iff).2 h.1, fun g hg => h.2.1 g (p.subset hg), by rw [(flat_perm p).length_eq]; exact h.2.2⟩
theorem Gok.join {many : Nat} {a b : Gp} {r : List Gp} (h : Gok many (a :: b :: r)) : Gok many (r ++ [joinG a b]) := by
  obtain ⟨h1, h2, h3⟩ := h
  simp only [List.map_cons, List.nodup_cons, List.mem_cons, not_or] at h1
  refine ⟨?_, fun g hg => ?_, ?_⟩
  · rw [List.map_append, List.nodup_append]
    refine ⟨h1.2.2, by simp, fun x hx y hy => ?_⟩
    simp only [List.map_cons, List.map_nil, List.mem_singleton, joinG] at hy
    subst hy
    rintro rfl
    rcases Nat.le_total a.2.1 b.2.1 with hab | hab
    · rw [Nat.min_eq_left hab] at hx; exact h1.1.2 hx
    · rw [Nat.min_eq_right hab] at hx; exact h1.2.1 hx
  · rcases List.mem_append.1 hg with hg | hg
    · exact h2 g (by simp [hg])
    · rw [List.mem_singleton] at hg
      subst hg
      have ha := h2 a (by simp)
      have hb := h2 b (by simp)
      refine ⟨by simp only [joinG]; omega, by simp only [joinG, List.length_append]; omega, fun s hs => ?_⟩
      simp only [joinG, List.mem_append] at hs
      rcases hs with hs | hs
      · exact ha.2.2 s hs
      · exact hb.2.2 s hs
  · simp only [flat, List.flatMap_cons, List.flatMap_append, List.flatMap_nil, List.length_append, joinG, List.length_nil] at h3 ⊢
    omega
theorem hrun_step {gs : List Gp} {a b : Gp} {r : List Gp} (n : Nat) (L : Nat → Nat) (h : gsort gs = a :: b :: r) : hrun (n + 1) gs L = hrun n (r ++ [joinG a b]) (bump L (a.2.2 ++ b.2.2)) := by
  show (match gsort gs with
    | a :: b :: r => hrun n (r ++ [joinG a b]) (bump L (a.2.2 ++ b.2.2))
    | _ => L) = _
  rw [h]
/-- The lengths so far, one for each sign. -/
def rng (many : Nat) (L : Nat → Nat) : List Nat := (List.range many).map L
theorem rng_length (many : Nat) (L : Nat → Nat) : (rng many L).length = many := by simp [rng]
theorem rng_at (many : Nat) (L : Nat → Nat) (x : Nat) (h : x < many) : (rng many L)[x]? = some (L x) := by
  unfold rng; rw [List.getElem?_map, List.getElem?_range h]; rfl
theorem rng_set (many : Nat) (L M : Nat → Nat) (x v : Nat) (h : x < many) (h1 : M x = v) (h2 : ∀ s, s ≠ x → M s = L s) : rng many M = (rng many L).set x v := by
  apply List.ext_getElem?
  intro i
  rw [List.getElem?_set, rng_length]
  by_cases hi : i < many
  · rw [rng_at _ _ _ hi, rng_at _ _ _ hi]
    by_cases hx : x = i
    · subst hx; rw [if_pos rfl, if_pos hi, h1]
    · rw [if_neg hx, h2 i (fun e => hx e.symm)]
  · rw [List.getElem?_eq_none (by rw [rng_length]; omega), List.getElem?_eq_none (by rw [rng_length]; omega)]
    by_cases hx : x = i
    · rw [if_pos hx, if_neg (by omega)]
    · rw [if_neg hx]
theorem bump_snoc (many : Nat) (L : Nat → Nat) (t : List Nat) (x : Nat) (h : x < many) : rng many (bump L (t ++ [x])) = (rng many (bump L t)).set x (bump L t x + 1) := by
  refine rng_set many _ _ x _ h ?_ (fun s hs => ?_)
  · unfold bump; rw [List.count_append]; simp; omega
  · unfold bump; rw [List.count_append]
    have : List.count s [x] = 0 := List.count_eq_zero.2 (by simpa using hs)
    omega
theorem bump_le (L : Nat → Nat) (t : List Nat) (k : Nat) (hk : ∀ s, L s ≤ k) (ht : t.length ≤ 64) : ∀ s, bump L t s ≤ k + 64 := fun s => by
  unfold bump
  have := hk s
  have := List.count_le_length (a := s) (l := t)
  omega
theorem bump_nil (L : Nat → Nat) : bump L [] = L := by funext s; simp [bump]
theorem rng_zero (many : Nat) : rng many (fun _ => 0) = List.replicate many 0 := by
  apply List.ext_getElem <;> simp [rng]
theorem rng_lens (os : List Nat) : rng os.length (lens os) = hl os := rfl
end

section
set_option maxRecDepth 100000
set_option linter.unusedVariables false
open Go.RowKit Go.Shelf

/-- A group and where its signs lie. -/
abbrev Gx := Gp × Option Addr × Nat
def encG (x : Gx) : List Value := [.int .i64 (x.1.1 : Int), .int .i64 (x.1.2.1 : Int), .slice x.2.1 x.1.2.2.length x.2.2]
theorem encG_len (x : Gx) : (encG x).length = 3 := rfl
theorem encG_one (x : Gx) : ∀ u ∈ encG x, u.oneCell' = true := by
  intro u hu
  simp [encG] at hu
  rcases hu with rfl | rfl | rfl <;> rfl
theorem info_group : (Tryz.prog.info? 128).map (fun i => (i.zero, i.size, i.bytes)) = some (some (.agg #[.int .i64 0, .int .i64 0, .slice none 0 0]), 3, 40) := by kernel_rfl
/-- The signs of a group lie in a row from a block on, and not in block g. -/
def SyO (w : World) (base : Nat) (g : Option Nat) (x : Gx) : Prop := w.ownsRow base 3 1 (.slice x.2.1 x.1.2.2.length x.2.2) x.1.2.2.length (zc (ns x.1.2.2)) ∧ ∀ a, x.2.1 = some a → g ≠ some a.block
theorem SyO.keep {w w' : World} {base : Nat} {g : Option Nat} {x : Gx} (h : SyO w base g x) (hk : ∀ j, g ≠ some j → (∃ cs, w.heap[j]? = some (.cells cs 3 (0, 0))) → w'.heap[j]? = w.heap[j]?) : SyO w' base g x := by
  refine ⟨?_, h.2⟩
  refine ⟨h.1.1, ?_⟩
  rcases h.1.2 with ⟨hv, h0⟩ | ⟨b, cap, cur, hv, hb, hg, hr⟩
  · exact .inl ⟨hv, h0⟩
  · refine .inr ⟨b, cap, cur, hv, hb, ?_, hr⟩
    rw [hk b ?_ ⟨cur, hg⟩]
    · exact hg
    · have := h.2 ⟨b, 0, none⟩ (by simp only [Value.slice.injEq] at hv; exact hv.1)
      exact this
theorem SyO.on {w w' : World} {base : Nat} {g : Option Nat} {x : Gx} (h : SyO w base g x) (hb : Below w.heap.size w w') : SyO w' base g x :=
  h.keep fun j _ ⟨cs, hj⟩ => hb.block j (Array.getElem?_eq_some_iff.1 hj).1

theorem own_blockT {w : World} {base : Nat} {e t : TypeId} {size n : Nat} {v : Value} {xs : List Value} (h : w.ownsRow base e size v n xs) {j : Nat} {cs : Array Value} (hj : w.heap[j]? = some (.cells cs t (0, 0))) (hne : t ≠ e) : v.ownBlock ≠ some j := by
  intro hv
  rcases h.2 with ⟨rfl, _⟩ | ⟨g, cap, cur, rfl, _, hg, _⟩
  · simp [Value.ownBlock] at hv
  · simp only [Value.ownBlock, Option.some.injEq] at hv
    subst hv
    rw [hj] at hg
    simp at hg
    exact hne hg.2
theorem groups_append : ∀ (a b : List Nat) (i : Nat), groups i (a ++ b) = groups i a ++ groups (i + a.length) b
  | [], b, i => by simp [groups]
  | x :: a, b, i => by
    simp only [List.cons_append, groups]
    rw [groups_append a b (i + 1), List.length_cons, show i + 1 + a.length = i + (a.length + 1) by omega]
    split <;> rfl
theorem groups_take (l : List Nat) (i : Nat) (h : i < l.length) : groups 0 (l.take (i + 1)) = groups 0 (l.take i) ++ (if l[i]?.getD 0 = 0 then [] else [(l[i]?.getD 0, i, [i])]) := by
  rw [take_snoc l i h, groups_append]
  have : (l.take i).length = i := by rw [List.length_take]; omega
  rw [this, Nat.zero_add]
  simp only [groups]
theorem groups_len : ∀ (l : List Nat) (i : Nat), (groups i l).length ≤ l.length
  | [], i => Nat.le_refl _
  | x :: l, i => by
    have := groups_len l (i + 1)
    unfold groups
    split <;> simp <;> omega
/-- Rows of groups. -/
def GRow (w : World) (base : Nat) (v : Value) (gs : List Gp) : Prop :=
  ∃ xs : List Gx, xs.map (fun x : Gx => x.1) = gs ∧ w.ownsRow base 128 3 v gs.length (xs.flatMap encG) ∧ ∀ x ∈ xs, SyO w base none x
def GoRel (l : List Nat) (w : World) (v p : Value) (wr : World) : Prop :=
  ∃ i : Nat, i ≤ l.length ∧ p = .int .i64 (i : Int) ∧ GRow wr w.heap.size v (groups 0 (l.take i)) ∧ Below w.heap.size w wr

set_option maxHeartbeats 2000000 in
theorem groupsOf_ok (l : List Nat) (n : Nat) (hn : l.length = n) (h64 : n ≤ 64) (A : Option Addr) (c : Nat) (w : World) (h : RdV w w.heap.size A (zc (ns l))) :
    Calls Tryz.prog 45 #[.slice A n c] w fun e w' => ∃ v, e = .returned v ∧ GRow w' w.heap.size v (groups 0 l) ∧ Below w.heap.size w w' := by
  obtain ⟨i0, hi, hz0, hz1, hz2⟩ := info_parts info_group
  have HR := Lib.hid h; clear h
  have HN := Lib.hid hn; clear hn
  go_enter Tryz.func45, Tryz.ntmps45
  go_wp2
  go_loopw [3, 8] (fun v p wr => GoRel l w v p wr) (fun _ p _ => n - (intOf p).toNat)
  case atStart => exact ⟨0, Nat.zero_le _, rfl, ⟨[], rfl, ⟨rfl, .inl ⟨rfl, rfl⟩⟩, by simp⟩, Below.refl _ _⟩
  case round =>
    obtain ⟨i, hi', rfl, hrow, hbel⟩ := hrel
    rw [HN.out] at hi'
    by_cases hlt : i < n
    · have hin : i < l.length := by rw [HN.out]; exact hlt
      have hR := HR.out.below hbel hbel.size
      obtain ⟨b, off, rfl, hb, hc⟩ := hR.at_ (ns_get l i hin)
      have htk := groups_take l i hin
      have hul := groups_len (l.take i) 0
      rw [List.length_take] at hul
      have HB := Lib.hid hbel; clear hbel hR
      generalize groups 0 (l.take i) = U at *
      generalize l[i]?.getD 0 = x at *
      by_cases hx : x = 0
      · subst hx
        rw [if_pos rfl, List.append_nil] at htk
        have HT := Lib.hid htk; clear htk
        have HO := Lib.hid hrow; clear hrow
        go_wp2
        go_roundw
        case rel => exact ⟨i + 1, by rw [HN.out]; omega, by go_num, by rw [HT.out]; exact HO.out, HB.out⟩
        case measure => simp [intOf]; omega
      · rw [if_neg hx] at htk
        have HT := Lib.hid htk; clear htk
        obtain ⟨xs, hxs, hrow, hsy⟩ := hrow
        have HXs := Lib.hid hxs; have HSy := Lib.hid hsy; clear hxs hsy
        have hx0 : 0 < x := by omega
        have t0 : decide ((0 : Int) < (x : Int)) = true := by simp; omega
        clear hx
        go_wp2_with (at_builtin; refine wpList_append_own _ rfl _ _ 76 rfl w.heap.size 128 i0 (.agg #[.int .i64 0, .int .i64 0, .slice none 0 0]) 3 40 Tryz.underlying76 hi hz0 hz1 hz2 rfl (by decide) _ _ _ rfl ((hrow.alloc _).alloc _) ⟨wr.heap.size + 1, 0, none⟩ 1 1 (encG ((x, i, [i]), some ⟨wr.heap.size, 0, none⟩, 1)) rfl rfl (by have := news_rowC (wr.alloc (.cells #[.int .i64 (i : Int)] 3)) (encG ((x, i, [i]), some ⟨wr.heap.size, 0, none⟩, 1)) 128; rw [World.size_alloc] at this; exact this) (encG_one _) (by unfold maxLen; omega) (by omega) (by have := HB.out.size; simp; omega) ?_; intro v' w3 hown' hgrow _)
        have h0 : ((wr.alloc (Obj.cells #[.int .i64 (i : Int)] 3)).alloc (Obj.cells (encG ((x, i, [i]), some ⟨wr.heap.size, 0, none⟩, 1)).toArray 128)).heap[wr.heap.size]? = some (.cells #[.int .i64 (i : Int)] 3 (0, 0)) := by
          rw [Below.heap_alloc _ _ _ (by simp)]; exact World.alloc_heap_new wr _
        have hg0 : w3.heap[wr.heap.size]? = some (.cells #[.int .i64 (i : Int)] 3 (0, 0)) := (hgrow.block _ (by simp; omega) (fun e => own_blockT ((hrow.alloc (.cells #[.int .i64 (i : Int)] 3)).alloc (.cells (encG ((x, i, [i]), some ⟨wr.heap.size, 0, none⟩, 1)).toArray 128)) h0 (by decide) e.symm)).trans h0
        have hOld : ∀ j : Nat, (∃ cs : Array Value, wr.heap[j]? = some (Obj.cells cs 3 (0, 0))) → w3.heap[j]? = wr.heap[j]? := by
          rintro j ⟨cs, hj⟩
          have hlt := (Array.getElem?_eq_some_iff.1 hj).1
          refine (hgrow.block j (by simp; omega) (fun e => own_blockT hrow hj (by decide) e.symm)).trans ?_
          rw [Below.heap_alloc _ _ _ (by simp; omega), Below.heap_alloc _ _ _ hlt]
        have HB3 : Hid (Below w.heap.size w w3) := HB.out.trans ((((Below.refl w.heap.size wr).alloc HB.out.size _).alloc (by have := HB.out.size; simp; omega) _).trans (grown_lowC hgrow ((hrow.alloc _).alloc _) (by have := HB.out.size; simp; omega)))
        have HO3 : Hid (GRow w3 w.heap.size v' (U ++ [(x, i, [i])])) := by
          refine ⟨xs ++ [((x, i, [i]), some ⟨wr.heap.size, 0, none⟩, 1)], by rw [List.map_append, HXs.out]; rfl, ?_, fun z hz => ?_⟩
          · rw [List.length_append, List.flatMap_append]; simpa using hown'
          · rcases List.mem_append.1 hz with hz | hz
            · exact (HSy.out z hz).keep fun j _ hj => hOld j hj
            · rw [List.mem_singleton] at hz
              subst hz
              exact ⟨⟨rfl, .inr ⟨wr.heap.size, 1, #[.int .i64 (i : Int)], rfl, HB.out.size, hg0, Nat.le_refl _, by decide, rfl, rfl⟩⟩, fun a _ e => by cases e⟩
        clear hown' hgrow hrow h0 hg0 hOld
        go_roundw
        case rel => exact ⟨i + 1, by rw [HN.out]; omega, by go_num, by rw [HT.out]; exact HO3.out, HB3.out⟩
        case measure => simp [intOf]; omega
    · have ht : l.take i = l := List.take_of_length_le (by rw [HN.out]; omega)
      rw [ht] at hrow
      have HO := Lib.hid hrow; have HB := Lib.hid hbel
      clear hrow hbel ht
      go_wp2
      go_ret
      exact ⟨_, rfl, HO.out, HB.out⟩
end

section
set_option maxRecDepth 100000
set_option linter.unusedVariables false
open Go.Shelf

def cmpInt_ren : Go.Shelf.Ren := ⟨fun | 5 => 89 | 7 => 129 | n => n, fun | 22 => 3 | 3 => 3 | 4 => 4 | n => n, fun n => n⟩
theorem cmpInt : SlLaysC2.n5 Tryz.prog cmpInt_ren where
  mixed := by kernel_rfl
  f5 := ⟨"cmp.Compare[int]", by decide, Tryz.func89.trans (congrArg some (by kernel_rfl))⟩
  f7 := ⟨"cmp.isNaN[int]", by decide, Tryz.func129.trans (congrArg some (by kernel_rfl))⟩
  t3 := Tryz.underlying3
  a3 := Tryz.isAgg3
  z3 := Tryz.sizeOf3
  v3 := Tryz.zeroValue3
  t4 := Tryz.underlying4
  a4 := Tryz.isAgg4
  z4 := Tryz.sizeOf4
  v4 := Tryz.zeroValue4
  t22 := Tryz.underlying3
  a22 := Tryz.isAgg3
  z22 := Tryz.sizeOf3
  v22 := Tryz.zeroValue3

def sortB_ren : Go.Shelf.Ren := ⟨fun | 6 => 96 | 15 => 128 | 14 => 133 | 28 => 168 | 29 => 169 | 20 => 173 | 21 => 174 | 22 => 175 | 23 => 176 | 24 => 177 | 25 => 178 | 26 => 179 | 27 => 180 | 46 => 209 | 47 => 204 | 48 => 205 | 49 => 210 | 50 => 211 | 57 => 241 | n => n, fun | 22 => 83 | 24 => 35 | 25 => 145 | 3 => 3 | 39 => 180 | 0 => 0 | 53 => 222 | 55 => 46 | 4 => 4 | 46 => 215 | 45 => 214 | 50 => 219 | 5 => 5 | 9 => 9 | 66 => 252 | 70 => 256 | 76 => 280 | 77 => 281 | n => n, fun n => n⟩
theorem sortB : SlLaysF0.n6 Tryz.prog sortB_ren where
  mixed := by kernel_rfl
  f6 := ⟨"slices.SortFunc[[]lampwright/api.Bits,lampwright/api.Bits]", by decide, Tryz.func96.trans (congrArg some (by kernel_rfl))⟩
  f14 := ⟨"slices.pdqsortCmpFunc[lampwright/api.Bits]", by decide, Tryz.func133.trans (congrArg some (by kernel_rfl))⟩
  f15 := Tryz.func128.trans (congrArg some (by kernel_rfl))
  f20 := ⟨"slices.insertionSortCmpFunc[lampwright/api.Bits]", by decide, Tryz.func173.trans (congrArg some (by kernel_rfl))⟩
  f21 := ⟨"slices.heapSortCmpFunc[lampwright/api.Bits]", by decide, Tryz.func174.trans (congrArg some (by kernel_rfl))⟩
  f22 := ⟨"slices.breakPatternsCmpFunc[lampwright/api.Bits]", by decide, Tryz.func175.trans (congrArg some (by kernel_rfl))⟩
  f23 := ⟨"slices.choosePivotCmpFunc[lampwright/api.Bits]", by decide, Tryz.func176.trans (congrArg some (by kernel_rfl))⟩
  f24 := ⟨"slices.reverseRangeCmpFunc[lampwright/api.Bits]", by decide, Tryz.func177.trans (congrArg some (by kernel_rfl))⟩
  f25 := ⟨"slices.partialInsertionSortCmpFunc[lampwright/api.Bits]", by decide, Tryz.func178.trans (congrArg some (by kernel_rfl))⟩
  f26 := ⟨"slices.partitionEqualCmpFunc[lampwright/api.Bits]", by decide, Tryz.func179.trans (congrArg some (by kernel_rfl))⟩
  f27 := ⟨"slices.partitionCmpFunc[lampwright/api.Bits]", by decide, Tryz.func180.trans (congrArg some (by kernel_rfl))⟩
  f28 := Tryz.func168.trans (congrArg some (by kernel_rfl))
  f29 := Tryz.func169.trans (congrArg some (by kernel_rfl))
  f46 := ⟨"slices.siftDownCmpFunc[lampwright/api.Bits]", by decide, Tryz.func209.trans (congrArg some (by kernel_rfl))⟩
  f47 := Tryz.func204.trans (congrArg some (by kernel_rfl))
  f48 := Tryz.func205.trans (congrArg some (by kernel_rfl))
  f49 := ⟨"slices.medianAdjacentCmpFunc[lampwright/api.Bits]", by decide, Tryz.func210.trans (congrArg some (by kernel_rfl))⟩
  f50 := ⟨"slices.medianCmpFunc[lampwright/api.Bits]", by decide, Tryz.func211.trans (congrArg some (by kernel_rfl))⟩
  f57 := ⟨"slices.order2CmpFunc[lampwright/api.Bits]", by decide, Tryz.func241.trans (congrArg some (by kernel_rfl))⟩
  t0 := Tryz.underlying0
  a0 := Tryz.isAgg0
  z0 := Tryz.sizeOf0
  v0 := Tryz.zeroValue0
  t3 := Tryz.underlying3
  a3 := Tryz.isAgg3
  z3 := Tryz.sizeOf3
  v3 := Tryz.zeroValue3
  t4 := Tryz.underlying4
  a4 := Tryz.isAgg4
  z4 := Tryz.sizeOf4
  v4 := Tryz.zeroValue4
  t5 := Tryz.underlying5
  a5 := Tryz.isAgg5
  z5 := Tryz.sizeOf5
  v5 := Tryz.zeroValue5
  t9 := Tryz.underlying9
  a9 := Tryz.isAgg9
  z9 := Tryz.sizeOf9
  v9 := Tryz.zeroValue9
  t22 := Tryz.underlying83
  a22 := Tryz.isAgg83
  z22 := Tryz.sizeOf83
  v22 := Tryz.zeroValue83
  t25 := Tryz.underlying145
  a25 := Tryz.isAgg145
  z25 := Tryz.sizeOf145
  v25 := Tryz.zeroValue145
  t39 := Tryz.underlying180
  a39 := Tryz.isAgg180
  z39 := Tryz.sizeOf180
  v39 := Tryz.zeroValue180
  t45 := Tryz.underlying214
  a45 := Tryz.isAgg214
  z45 := Tryz.sizeOf214
  v45 := Tryz.zeroValue214
  t46 := Tryz.underlying215
  a46 := Tryz.isAgg215
  z46 := Tryz.sizeOf215
  v46 := Tryz.zeroValue215
  t50 := Tryz.underlying219
  a50 := Tryz.isAgg219
  z50 := Tryz.sizeOf219
  v50 := Tryz.zeroValue219
  t53 := Tryz.underlying222
  a53 := Tryz.isAgg222
  z53 := Tryz.sizeOf222
  v53 := Tryz.zeroValue222
  t55 := Tryz.underlying46
  a55 := Tryz.isAgg46
  z55 := Tryz.sizeOf46
  v55 := Tryz.zeroValue46
  t66 := Tryz.underlying252
  a66 := Tryz.isAgg252
  z66 := Tryz.sizeOf252
  v66 := Tryz.zeroValue252
  t70 := Tryz.underlying256
  a70 := Tryz.isAgg256
  z70 := Tryz.sizeOf256
  v70 := Tryz.zeroValue256
  t76 := Tryz.underlying280
  a76 := Tryz.isAgg280
  z76 := Tryz.sizeOf280
  v76 := Tryz.zeroValue280
  t77 := Tryz.underlying281
  a77 := Tryz.isAgg281
  z77 := Tryz.sizeOf281
  v77 := Tryz.zeroValue281

def sortG_ren : Go.Shelf.Ren := ⟨fun | 6 => 86 | 15 => 128 | 14 => 127 | 28 => 168 | 29 => 169 | 20 => 160 | 21 => 161 | 22 => 162 | 23 => 163 | 24 => 164 | 25 => 165 | 26 => 166 | 27 => 167 | 46 => 203 | 47 => 204 | 48 => 205 | 49 => 206 | 50 => 207 | 57 => 232 | n => n, fun | 22 => 76 | 24 => 128 | 25 => 132 | 3 => 3 | 39 => 180 | 0 => 0 | 53 => 222 | 55 => 46 | 4 => 4 | 46 => 215 | 45 => 214 | 50 => 219 | 5 => 5 | 9 => 9 | 66 => 252 | 70 => 256 | 76 => 280 | 77 => 281 | n => n, fun n => n⟩
theorem sortG : SlLaysF0.n6 Tryz.prog sortG_ren where
  mixed := by kernel_rfl
  f6 := ⟨"slices.SortFunc[[]lampwright/huff.group,lampwright/huff.group]", by decide, Tryz.func86.trans (congrArg some (by kernel_rfl))⟩
  f14 := ⟨"slices.pdqsortCmpFunc[lampwright/huff.group]", by decide, Tryz.func127.trans (congrArg some (by kernel_rfl))⟩
  f15 := Tryz.func128.trans (congrArg some (by kernel_rfl))
  f20 := ⟨"slices.insertionSortCmpFunc[lampwright/huff.group]", by decide, Tryz.func160.trans (congrArg some (by kernel_rfl))⟩
  f21 := ⟨"slices.heapSortCmpFunc[lampwright/huff.group]", by decide, Tryz.func161.trans (congrArg some (by kernel_rfl))⟩
  f22 := ⟨"slices.breakPatternsCmpFunc[lampwright/huff.group]", by decide, Tryz.func162.trans (congrArg some (by kernel_rfl))⟩
  f23 := ⟨"slices.choosePivotCmpFunc[lampwright/huff.group]", by decide, Tryz.func163.trans (congrArg some (by kernel_rfl))⟩
  f24 := ⟨"slices.reverseRangeCmpFunc[lampwright/huff.group]", by decide, Tryz.func164.trans (congrArg some (by kernel_rfl))⟩
  f25 := ⟨"slices.partialInsertionSortCmpFunc[lampwright/huff.group]", by decide, Tryz.func165.trans (congrArg some (by kernel_rfl))⟩
  f26 := ⟨"slices.partitionEqualCmpFunc[lampwright/huff.group]", by decide, Tryz.func166.trans (congrArg some (by kernel_rfl))⟩
  f27 := ⟨"slices.partitionCmpFunc[lampwright/huff.group]", by decide, Tryz.func167.trans (congrArg some (by kernel_rfl))⟩
  f28 := Tryz.func168.trans (congrArg some (by kernel_rfl))
  f29 := Tryz.func169.trans (congrArg some (by kernel_rfl))
  f46 := ⟨"slices.siftDownCmpFunc[lampwright/huff.group]", by decide, Tryz.func203.trans (congrArg some (by kernel_rfl))⟩
  f47 := Tryz.func204.trans (congrArg some (by kernel_rfl))
  f48 := Tryz.func205.trans (congrArg some (by kernel_rfl))
  f49 := ⟨"slices.medianAdjacentCmpFunc[lampwright/huff.group]", by decide, Tryz.func206.trans (congrArg some (by kernel_rfl))⟩
  f50 := ⟨"slices.medianCmpFunc[lampwright/huff.group]", by decide, Tryz.func207.trans (congrArg some (by kernel_rfl))⟩
  f57 := ⟨"slices.order2CmpFunc[lampwright/huff.group]", by decide, Tryz.func232.trans (congrArg some (by kernel_rfl))⟩
  t0 := Tryz.underlying0
  a0 := Tryz.isAgg0
  z0 := Tryz.sizeOf0
  v0 := Tryz.zeroValue0
  t3 := Tryz.underlying3
  a3 := Tryz.isAgg3
  z3 := Tryz.sizeOf3
  v3 := Tryz.zeroValue3
  t4 := Tryz.underlying4
  a4 := Tryz.isAgg4
  z4 := Tryz.sizeOf4
  v4 := Tryz.zeroValue4
  t5 := Tryz.underlying5
  a5 := Tryz.isAgg5
  z5 := Tryz.sizeOf5
  v5 := Tryz.zeroValue5
  t9 := Tryz.underlying9
  a9 := Tryz.isAgg9
  z9 := Tryz.sizeOf9
  v9 := Tryz.zeroValue9
  t22 := Tryz.underlying76
  a22 := Tryz.isAgg76
  z22 := Tryz.sizeOf76
  v22 := Tryz.zeroValue76
  t25 := Tryz.underlying132
  a25 := Tryz.isAgg132
  z25 := Tryz.sizeOf132
  v25 := Tryz.zeroValue132
  t39 := Tryz.underlying180
  a39 := Tryz.isAgg180
  z39 := Tryz.sizeOf180
  v39 := Tryz.zeroValue180
  t45 := Tryz.underlying214
  a45 := Tryz.isAgg214
  z45 := Tryz.sizeOf214
  v45 := Tryz.zeroValue214
  t46 := Tryz.underlying215
  a46 := Tryz.isAgg215
  z46 := Tryz.sizeOf215
  v46 := Tryz.zeroValue215
  t50 := Tryz.underlying219
  a50 := Tryz.isAgg219
  z50 := Tryz.sizeOf219
  v50 := Tryz.zeroValue219
  t53 := Tryz.underlying222
  a53 := Tryz.isAgg222
  z53 := Tryz.sizeOf222
  v53 := Tryz.zeroValue222
  t55 := Tryz.underlying46
  a55 := Tryz.isAgg46
  z55 := Tryz.sizeOf46
  v55 := Tryz.zeroValue46
  t66 := Tryz.underlying252
  a66 := Tryz.isAgg252
  z66 := Tryz.sizeOf252
  v66 := Tryz.zeroValue252
  t70 := Tryz.underlying256
  a70 := Tryz.isAgg256
  z70 := Tryz.sizeOf256
  v70 := Tryz.zeroValue256
  t76 := Tryz.underlying280
  a76 := Tryz.isAgg280
  z76 := Tryz.sizeOf280
  v76 := Tryz.zeroValue280
  t77 := Tryz.underlying281
  a77 := Tryz.isAgg281
  z77 := Tryz.sizeOf281
  v77 := Tryz.zeroValue281

def sortW_ren : Go.Shelf.Ren := ⟨fun | 6 => 171 | 15 => 128 | 14 => 208 | 28 => 168 | 29 => 169 | 20 => 233 | 21 => 234 | 22 => 235 | 23 => 236 | 24 => 237 | 25 => 238 | 26 => 239 | 27 => 240 | 46 => 255 | 47 => 204 | 48 => 205 | 49 => 256 | 50 => 257 | 57 => 273 | n => n, fun | 22 => 136 | 24 => 140 | 25 => 226 | 3 => 3 | 39 => 180 | 0 => 0 | 53 => 222 | 55 => 46 | 4 => 4 | 46 => 215 | 45 => 214 | 50 => 219 | 5 => 5 | 9 => 9 | 66 => 252 | 70 => 256 | 76 => 280 | 77 => 281 | n => n, fun n => n⟩
theorem sortW : SlLaysF0.n6 Tryz.prog sortW_ren where
  mixed := by kernel_rfl
  f6 := ⟨"slices.SortFunc[[]lampwright/kraft.word,lampwright/kraft.word]", by decide, Tryz.func171.trans (congrArg some (by kernel_rfl))⟩
  f14 := ⟨"slices.pdqsortCmpFunc[lampwright/kraft.word]", by decide, Tryz.func208.trans (congrArg some (by kernel_rfl))⟩
  f15 := Tryz.func128.trans (congrArg some (by kernel_rfl))
  f20 := ⟨"slices.insertionSortCmpFunc[lampwright/kraft.word]", by decide, Tryz.func233.trans (congrArg some (by kernel_rfl))⟩
  f21 := ⟨"slices.heapSortCmpFunc[lampwright/kraft.word]", by decide, Tryz.func234.trans (congrArg some (by kernel_rfl))⟩
  f22 := ⟨"slices.breakPatternsCmpFunc[lampwright/kraft.word]", by decide, Tryz.func235.trans (congrArg some (by kernel_rfl))⟩
  f23 := ⟨"slices.choosePivotCmpFunc[lampwright/kraft.word]", by decide, Tryz.func236.trans (congrArg some (by kernel_rfl))⟩
  f24 := ⟨"slices.reverseRangeCmpFunc[lampwright/kraft.word]", by decide, Tryz.func237.trans (congrArg some (by kernel_rfl))⟩
  f25 := ⟨"slices.partialInsertionSortCmpFunc[lampwright/kraft.word]", by decide, Tryz.func238.trans (congrArg some (by kernel_rfl))⟩
  f26 := ⟨"slices.partitionEqualCmpFunc[lampwright/kraft.word]", by decide, Tryz.func239.trans (congrArg some (by kernel_rfl))⟩
  f27 := ⟨"slices.partitionCmpFunc[lampwright/kraft.word]", by decide, Tryz.func240.trans (congrArg some (by kernel_rfl))⟩
  f28 := Tryz.func168.trans (congrArg some (by kernel_rfl))
  f29 := Tryz.func169.trans (congrArg some (by kernel_rfl))
  f46 := ⟨"slices.siftDownCmpFunc[lampwright/kraft.word]", by decide, Tryz.func255.trans (congrArg some (by kernel_rfl))⟩
  f47 := Tryz.func204.trans (congrArg some (by kernel_rfl))
  f48 := Tryz.func205.trans (congrArg some (by kernel_rfl))
  f49 := ⟨"slices.medianAdjacentCmpFunc[lampwright/kraft.word]", by decide, Tryz.func256.trans (congrArg some (by kernel_rfl))⟩
  f50 := ⟨"slices.medianCmpFunc[lampwright/kraft.word]", by decide, Tryz.func257.trans (congrArg some (by kernel_rfl))⟩
  f57 := ⟨"slices.order2CmpFunc[lampwright/kraft.word]", by decide, Tryz.func273.trans (congrArg some (by kernel_rfl))⟩
  t0 := Tryz.underlying0
  a0 := Tryz.isAgg0
  z0 := Tryz.sizeOf0
  v0 := Tryz.zeroValue0
  t3 := Tryz.underlying3
  a3 := Tryz.isAgg3
  z3 := Tryz.sizeOf3
  v3 := Tryz.zeroValue3
  t4 := Tryz.underlying4
  a4 := Tryz.isAgg4
  z4 := Tryz.sizeOf4
  v4 := Tryz.zeroValue4
  t5 := Tryz.underlying5
  a5 := Tryz.isAgg5
  z5 := Tryz.sizeOf5
  v5 := Tryz.zeroValue5
  t9 := Tryz.underlying9
  a9 := Tryz.isAgg9
  z9 := Tryz.sizeOf9
  v9 := Tryz.zeroValue9
  t22 := Tryz.underlying136
  a22 := Tryz.isAgg136
  z22 := Tryz.sizeOf136
  v22 := Tryz.zeroValue136
  t25 := Tryz.underlying226
  a25 := Tryz.isAgg226
  z25 := Tryz.sizeOf226
  v25 := Tryz.zeroValue226
  t39 := Tryz.underlying180
  a39 := Tryz.isAgg180
  z39 := Tryz.sizeOf180
  v39 := Tryz.zeroValue180
  t45 := Tryz.underlying214
  a45 := Tryz.isAgg214
  z45 := Tryz.sizeOf214
  v45 := Tryz.zeroValue214
  t46 := Tryz.underlying215
  a46 := Tryz.isAgg215
  z46 := Tryz.sizeOf215
  v46 := Tryz.zeroValue215
  t50 := Tryz.underlying219
  a50 := Tryz.isAgg219
  z50 := Tryz.sizeOf219
  v50 := Tryz.zeroValue219
  t53 := Tryz.underlying222
  a53 := Tryz.isAgg222
  z53 := Tryz.sizeOf222
  v53 := Tryz.zeroValue222
  t55 := Tryz.underlying46
  a55 := Tryz.isAgg46
  z55 := Tryz.sizeOf46
  v55 := Tryz.zeroValue46
  t66 := Tryz.underlying252
  a66 := Tryz.isAgg252
  z66 := Tryz.sizeOf252
  v66 := Tryz.zeroValue252
  t70 := Tryz.underlying256
  a70 := Tryz.isAgg256
  z70 := Tryz.sizeOf256
  v70 := Tryz.zeroValue256
  t76 := Tryz.underlying280
  a76 := Tryz.isAgg280
  z76 := Tryz.sizeOf280
  v76 := Tryz.zeroValue280
  t77 := Tryz.underlying281
  a77 := Tryz.isAgg281
  z77 := Tryz.sizeOf281
  v77 := Tryz.zeroValue281
end

section
set_option maxRecDepth 100000
set_option linter.unusedVariables false
open Go.RowKit Go.Shelf

theorem cmpI (x y : Int) (w : World) : Calls Tryz.prog 89 #[.int .i64 x, .int .i64 y] w fun e w' => e = .returned (.int .i64 (Lib.compareInt x y)) ∧ w' = w :=
  AnyG.cmp_Compare_int cmpInt x y w

/-- The first that is not 0. -/
def orI (a b : Int) : Int := if a = 0 then b else a
set_option maxHeartbeats 1000000 in
theorem orI_any (a b : Int) (w : World) (B : Nat) (h0 : w.cell? ⟨B, 0, none⟩ = some (.int .i64 a)) (h1 : w.cell? ⟨B, 0 + 1, none⟩ = some (.int .i64 b)) :
    Calls Tryz.prog 88 #[.slice (some ⟨B, 0, none⟩) 2 2] w fun e w' => e = .returned (.int .i64 (orI a b)) ∧ w' = w := by
  unfold orI
  by_cases ha : a = 0
  · subst ha
    rw [if_pos rfl]
    by_cases hb : b = 0
    · subst hb
      go_enter Tryz.func88, Tryz.ntmps88
      go_wp2
      refine wp_loop_rounds 3 ?_
      rw [rounds_succ]
      go_wp2
      rw [rounds_succ]
      go_wp2
      rw [rounds_succ]
      go_wp2
      go_ret
      exact ⟨rfl, rfl⟩
    · have t0 : (b == 0) = false := by simpa using hb
      go_enter Tryz.func88, Tryz.ntmps88
      go_wp2
      refine wp_loop_rounds 3 ?_
      rw [rounds_succ]
      go_wp2
      rw [rounds_succ]
      go_wp2
      go_ret
      exact ⟨rfl, rfl⟩
  · rw [if_neg ha]
    have t0 : (a == 0) = false := by simpa using ha
    go_enter Tryz.func88, Tryz.ntmps88
    go_wp2
    refine wp_loop_rounds 3 ?_
    rw [rounds_succ]
    go_wp2
    go_ret
    exact ⟨rfl, rfl⟩
end

section
set_option maxRecDepth 100000
set_option linter.unusedVariables false
open Go.RowKit Go.Shelf Go.Sort

theorem cell_at {w : World} {W : Nat} {t : TypeId} {cs : Array Value} (h : w.heap[W]? = some (.cells cs t (0, 0))) (i : Nat) : w.cell? ⟨W, i, none⟩ = cs[i]? := by simp [World.cell?, h]
theorem orI_new (a b : Int) (w : World) (B : Nat) (e : w.heap[B]? = some (.cells #[.int .i64 a, .int .i64 b] 3 (0, 0))) :
    Calls Tryz.prog 88 #[.slice (some ⟨B, 0, none⟩) 2 2] w fun x w' => x = .returned (.int .i64 (orI a b)) ∧ w' = w :=
  orI_any a b _ _ (by rw [cell_at e 0]; rfl) (by rw [cell_at e (0 + 1)]; rfl)
set_option maxHeartbeats 4000000 in
theorem closW (x0 x1 x2 y0 y1 y2 : Int) (W : World) : Calls Tryz.prog 172 #[.agg #[.int .i64 x0, .int .i64 x1, .int .u64 x2], .agg #[.int .i64 y0, .int .i64 y1, .int .u64 y2]] W fun e w' => e = .returned (.int .i64 (orI (Lib.compareInt x1 y1) (Lib.compareInt x0 y0))) ∧ ∃ q os', w' = grow (W.drewN q) os' := by
  have C1 := Lib.hid (cmpI x1 y1)
  have C2 := Lib.hid (cmpI x0 y0)
  have HO := Lib.hid (orI_new (Lib.compareInt x1 y1) (Lib.compareInt x0 y0))
  show Calls _ _ _ _ fun e w' => e = .returned (.int .i64 (orI (Lib.compareInt x1 y1) (Lib.compareInt x0 y0))) ∧ ∃ q os', w' = grow (W.drewN q) os'
  generalize Lib.compareInt x1 y1 = a at *
  generalize Lib.compareInt x0 y0 = b at *
  generalize orI a b = r at *
  go_enter Tryz.func172, Tryz.ntmps172
  go_wp2_with fail
  generalize hV : (W.alloc (.cells #[.int .i64 x0, .int .i64 x1, .int .u64 x2] 140)).alloc (.cells #[.int .i64 y0, .int .i64 y1, .int .u64 y2] 140) = V0
  have HV : Hid (V0 = (W.alloc (.cells #[.int .i64 x0, .int .i64 x1, .int .u64 x2] 140)).alloc (.cells #[.int .i64 y0, .int .i64 y1, .int .u64 y2] 140)) := hV.symm
  have HK : Hid (∀ w' : World, Below V0.heap.size V0 w' → w'.cell? ⟨W.heap.size, 1, none⟩ = some (.int .i64 x1) ∧ w'.cell? ⟨W.heap.size + 1, 1, none⟩ = some (.int .i64 y1) ∧ w'.cell? ⟨W.heap.size, 0, none⟩ = some (.int .i64 x0) ∧ w'.cell? ⟨W.heap.size + 1, 0, none⟩ = some (.int .i64 y0)) := by
    subst hV
    intro w' h
    have n0 := World.alloc_heap_new W (.cells #[.int .i64 x0, .int .i64 x1, .int .u64 x2] 140)
    have n1 := World.alloc_heap_new (W.alloc (.cells #[.int .i64 x0, .int .i64 x1, .int .u64 x2] 140)) (.cells #[.int .i64 y0, .int .i64 y1, .int .u64 y2] 140)
    have k0 := (h.block W.heap.size (by simp only [World.size_alloc]; omega)).trans ((Below.heap_alloc _ _ _ (by simp)).trans n0)
    have k1 := (h.block (W.alloc (.cells #[.int .i64 x0, .int .i64 x1, .int .u64 x2] 140)).heap.size (by simp)).trans n1
    rw [World.size_alloc] at k1
    exact ⟨(cell_at k0 _).trans rfl, (cell_at k1 _).trans rfl, (cell_at k0 _).trans rfl, (cell_at k1 _).trans rfl⟩
  clear hV
  have hk0 := HK.out V0 (Below.refl _ _)
  go_region_held3 (fun w' => w'.cell? ⟨W.heap.size, 1, none⟩ = some (.int .i64 x1) ∧ w'.cell? ⟨W.heap.size + 1, 1, none⟩ = some (.int .i64 y1) ∧ w'.cell? ⟨W.heap.size, 0, none⟩ = some (.int .i64 x0) ∧ w'.cell? ⟨W.heap.size + 1, 0, none⟩ = some (.int .i64 y0))
    ((refine HK.out _ ?_; first | exact (Below.refl _ _).drew | exact ((Below.refl _ _).drew).alloc (Nat.le_refl _) _ | exact ((Below.refl _ _).alloc (Nat.le_refl _) _).drew))
    (first
      | (go_at_call 89; refine (C1.out _).mono ?_; clear C1; rintro e w1 ⟨rfl, rfl⟩)
      | (go_at_call 89; refine (C2.out _).mono ?_; rintro e w1 ⟨rfl, rfl⟩)
      | (go_at_call 88; refine (HO.out (V0.alloc (.cells #[.int .i64 a, .int .i64 b] 3)).drew _ (World.alloc_heap_new V0 (.cells #[.int .i64 a, .int .i64 b] 3))).mono ?_; rintro e w1 ⟨rfl, rfl⟩))
  all_goals (
    go_wp2
    go_ret
    exact ⟨rfl, 1, _, by rw [HV.out, alloc_eq_grow, alloc_eq_grow, alloc_eq_grow, grow_grow, grow_grow, drew_grow]; rfl⟩)
set_option maxHeartbeats 4000000 in
theorem closG (x0 x1 y0 y1 : Int) (x2 y2 : Value) (W : World) : Calls Tryz.prog 87 #[.agg #[.int .i64 x0, .int .i64 x1, x2], .agg #[.int .i64 y0, .int .i64 y1, y2]] W fun e w' => e = .returned (.int .i64 (orI (Lib.compareInt x0 y0) (Lib.compareInt x1 y1))) ∧ ∃ q os', w' = grow (W.drewN q) os' := by
  have C1 := Lib.hid (cmpI x0 y0)
  have C2 := Lib.hid (cmpI x1 y1)
  have HO := Lib.hid (orI_new (Lib.compareInt x0 y0) (Lib.compareInt x1 y1))
  show Calls _ _ _ _ fun e w' => e = .returned (.int .i64 (orI (Lib.compareInt x0 y0) (Lib.compareInt x1 y1))) ∧ ∃ q os', w' = grow (W.drewN q) os'
  generalize Lib.compareInt x0 y0 = a at *
  generalize Lib.compareInt x1 y1 = b at *
  generalize orI a b = r at *
  go_enter Tryz.func87, Tryz.ntmps87
  go_wp2_with fail
  generalize hV : (W.alloc (.cells #[.int .i64 x0, .int .i64 x1, x2] 128)).alloc (.cells #[.int .i64 y0, .int .i64 y1, y2] 128) = V0
  have HV : Hid (V0 = (W.alloc (.cells #[.int .i64 x0, .int .i64 x1, x2] 128)).alloc (.cells #[.int .i64 y0, .int .i64 y1, y2] 128)) := hV.symm
  have HK : Hid (∀ w' : World, Below V0.heap.size V0 w' → w'.cell? ⟨W.heap.size, 0, none⟩ = some (.int .i64 x0) ∧ w'.cell? ⟨W.heap.size + 1, 0, none⟩ = some (.int .i64 y0) ∧ w'.cell? ⟨W.heap.size, 1, none⟩ = some (.int .i64 x1) ∧ w'.cell? ⟨W.heap.size + 1, 1, none⟩ = some (.int .i64 y1)) := by
    subst hV
    intro w' h
    have n0 := World.alloc_heap_new W (.cells #[.int .i64 x0, .int .i64 x1, x2] 128)
    have n1 := World.alloc_heap_new (W.alloc (.cells #[.int .i64 x0, .int .i64 x1, x2] 128)) (.cells #[.int .i64 y0, .int .i64 y1, y2] 128)
    have k0 := (h.block W.heap.size (by simp only [World.size_alloc]; omega)).trans ((Below.heap_alloc _ _ _ (by simp)).trans n0)
    have k1 := (h.block (W.alloc (.cells #[.int .i64 x0, .int .i64 x1, x2] 128)).heap.size (by simp)).trans n1
    rw [World.size_alloc] at k1
    exact ⟨(cell_at k0 _).trans rfl, (cell_at k1 _).trans rfl, (cell_at k0 _).trans rfl, (cell_at k1 _).trans rfl⟩
  clear hV
  have hk0 := HK.out V0 (Below.refl _ _)
  go_region_held3 (fun w' => w'.cell? ⟨W.heap.size, 0, none⟩ = some (.int .i64 x0) ∧ w'.cell? ⟨W.heap.size + 1, 0, none⟩ = some (.int .i64 y0) ∧ w'.cell? ⟨W.heap.size, 1, none⟩ = some (.int .i64 x1) ∧ w'.cell? ⟨W.heap.size + 1, 1, none⟩ = some (.int .i64 y1))
    ((refine HK.out _ ?_; first | exact (Below.refl _ _).drew | exact ((Below.refl _ _).drew).alloc (Nat.le_refl _) _ | exact ((Below.refl _ _).alloc (Nat.le_refl _) _).drew))
    (first
      | (go_at_call 89; refine (C1.out _).mono ?_; clear C1; rintro e w1 ⟨rfl, rfl⟩)
      | (go_at_call 89; refine (C2.out _).mono ?_; rintro e w1 ⟨rfl, rfl⟩)
      | (go_at_call 88; refine (HO.out (V0.alloc (.cells #[.int .i64 a, .int .i64 b] 3)).drew _ (World.alloc_heap_new V0 (.cells #[.int .i64 a, .int .i64 b] 3))).mono ?_; rintro e w1 ⟨rfl, rfl⟩))
  all_goals (
    go_wp2
    go_ret
    exact ⟨rfl, 1, _, by rw [HV.out, alloc_eq_grow, alloc_eq_grow, alloc_eq_grow, grow_grow, grow_grow, drew_grow]; rfl⟩)
end

section
set_option maxRecDepth 100000
set_option linter.unusedVariables false
open Go.RowKit Go.Shelf Go.Sort

theorem toList_get {l : List Value} {F : Array Value} (hs : F.size = l.length) (h : ∀ t, t < l.length → F[t]! = l[t]?.getD default) : F.toList = l := by
  apply List.ext_getElem (by simpa using hs)
  intro i h1 h2
  have := h i h2
  rw [List.getElem?_eq_getElem h2, Option.getD_some] at this
  rw [← this, Array.getElem_toList, getElem!_pos F i (by simpa using h1)]
theorem get!_of {α : Type} [Inhabited α] (l : List α) (i : Nat) : l.toArray[i]! = l[i]?.getD default := by simp [List.getElem!_eq_getElem?_getD]
theorem flatMap_get {α : Type} [Inhabited α] (enc : α → List Value) (k : Nat) (hk : ∀ x, (enc x).length = k) : ∀ (l : List α) (t : Nat), t < l.length * k → (l.flatMap enc)[t]?.getD default = (enc (l[t / k]?.getD default))[t % k]?.getD default
  | [], t, h => by simp at h
  | x :: l, t, h => by
    have k0 : 0 < k := by
      rcases Nat.eq_zero_or_pos k with rfl | h'
      · simp at h
      · exact h'
    rw [List.flatMap_cons]
    by_cases ht : t < k
    · rw [List.getElem?_append_left (by rw [hk]; exact ht), Nat.div_eq_of_lt ht, Nat.mod_eq_of_lt ht]; rfl
    · have e1 : t / k = (t - k) / k + 1 := by
        have : t = (t - k) + k := by omega
        conv => lhs; rw [this]
        rw [Nat.add_div_right _ k0]
      have e2 : t % k = (t - k) % k := by
        have : t = (t - k) + k := by omega
        conv => lhs; rw [this]
        rw [Nat.add_mod_right]
      rw [List.getElem?_append_right (by rw [hk]; omega), hk, e1, e2, List.getElem?_cons_succ]
      exact flatMap_get enc k hk l (t - k) (by simp [Nat.add_mul] at h; omega)
theorem flatMap_len {α : Type} (enc : α → List Value) (k : Nat) (hk : ∀ x, (enc x).length = k) : ∀ l : List α, (l.flatMap enc).length = l.length * k
  | [] => by simp
  | x :: l => by rw [List.flatMap_cons, List.length_append, hk, flatMap_len enc k hk l, List.length_cons, Nat.add_mul]; omega
theorem flatK_list {α : Type} [Inhabited α] (enc : α → List Value) (k : Nat) (hk : ∀ x, (enc x).length = k) (l : List α) : (flatK enc k l.toArray).toList = l.flatMap enc := by
  have hl := flatMap_len enc k hk l
  refine toList_get (by rw [size_flatK, hl]; simp) (fun t ht => ?_)
  rw [hl] at ht
  rw [get_flatK _ _ _ _ (by simpa using ht), flatMap_get enc k hk l t ht, get!_of, List.getElem!_eq_getElem?_getD]
theorem perm_list {α : Type} [Inhabited α] {lt : α → α → Bool} {d d' : Array α} (hP : PermIn 0 d.size d d') (hS : SortedIn lt 0 d.size d') : d'.toList.Perm d.toList ∧ d'.toList.Pairwise (fun x y => lt y x = false) := by
  obtain ⟨hsz, _, hperm⟩ := hP
  have e1 : d'.extract 0 d.size = d' := by rw [← hsz]; exact Array.extract_size
  rw [e1, Array.extract_size] at hperm
  refine ⟨hperm, List.pairwise_iff_getElem.2 fun i j hi hj hij => ?_⟩
  have hj' : j < d'.size := by simpa using hj
  have := hS i j (Nat.zero_le _) hij (by omega)
  rwa [getElem!_pos d' i (by omega), getElem!_pos d' j hj'] at this

theorem own_holdsK {α : Type} [Inhabited α] (enc : α → List Value) (k : Nat) (hk : ∀ x, (enc x).length = k) {w : World} {base : Nat} {e : TypeId} {g n cap : Nat} (l : List α)
    (h : w.ownsRow base e k (.slice (some ⟨g, 0, none⟩) n cap) n (l.flatMap enc)) (hn : l.length = n) : HoldsK enc k w g 0 l.toArray := by
  intro j hj
  rw [size_flatK] at hj
  have hj2 : j < n * k := by simpa [hn] using hj
  have hfl := flatK_list enc k hk l
  rcases h.2 with ⟨h, _⟩ | ⟨g', cap', cur, hv, _, hg, h1, h2, h3, h4⟩
  · cases h
  · simp only [Value.slice.injEq, Option.some.injEq, Addr.mk.injEq, and_true, true_and] at hv
    obtain ⟨rfl, rfl⟩ := hv
    have hc : n * k ≤ cap * k := Nat.mul_le_mul_right k h1
    have hjc : j < cur.size := by omega
    have hcell : cur[j]? = some (flatK enc k l.toArray)[j]! := by
      have e1 : (cur.toList.take (n * k))[j]? = cur[j]? := by rw [List.getElem?_take_of_lt hj2]; simp
      rw [← e1, h4, ← hfl, getElem!_pos _ j (by rw [size_flatK]; exact hj)]
      simp
    constructor
    · rw [Nat.zero_add, cell_at hg, hcell]; rfl
    · simp [World.frozen?, hg]
theorem put_own {α : Type} [Inhabited α] (enc : α → List Value) (k : Nat) (hk : ∀ x, (enc x).length = k) {w : World} {base : Nat} {e : TypeId} {g n cap : Nat} (l l' : List α)
    (h : w.ownsRow base e k (.slice (some ⟨g, 0, none⟩) n cap) n (l.flatMap enc)) (hn : l.length = n) (hn' : l'.length = n) (m : Nat) (os : Array Obj) :
    (sortWorldK enc k w g 0 m l'.toArray os).ownsRow base e k (.slice (some ⟨g, 0, none⟩) n cap) n (l'.flatMap enc) ∧ Below base w (sortWorldK enc k w g 0 m l'.toArray os) := by
  rcases h.2 with ⟨h, _⟩ | ⟨g', cap', cur, hv, hb, hg, h1, h2, h3, h4⟩
  · cases h
  · simp only [Value.slice.injEq, Option.some.injEq, Addr.mk.injEq, and_true, true_and] at hv
    obtain ⟨rfl, rfl⟩ := hv
    have hgs : g < w.heap.size := (Array.getElem?_eq_some_iff.1 hg).1
    have hc : n * k ≤ cap * k := Nat.mul_le_mul_right k h1
    have hsz : (sortWorldK enc k w g 0 m l'.toArray os).heap.size = w.heap.size + os.size := by
      unfold sortWorldK; rw [size_grow]; unfold putRowK; rw [size_putRow]; rfl
    have hheap : ∀ j, j < w.heap.size → (sortWorldK enc k w g 0 m l'.toArray os).heap[j]? = (w.heap.modify g (onCells (putCells id 0 (flatK enc k l'.toArray))))[j]? := by
      intro j hj
      unfold sortWorldK
      rw [heap_grow_old _ _ (by unfold putRowK; rw [size_putRow]; exact hj)]
      rfl
    constructor
    · refine ⟨by rw [flatMap_len enc k hk, hn'], .inr ⟨g, cap, putCells id 0 (flatK enc k l'.toArray) cur, rfl, hb, ?_, h1, h2, by simp [putCells]; exact h3, ?_⟩⟩
      · rw [hheap g hgs, Array.getElem?_modify, hg]; simp [onCells]
      · rw [← flatK_list enc k hk l']
        apply List.ext_getElem
        · simp [putCells, size_flatK, hn']; omega
        · intro i q1 q2
          have hi : i < n * k := by simp [size_flatK, hn'] at q2; exact q2
          simp only [putCells, List.getElem_take, Array.getElem_toList, Array.getElem_mapIdx]
          rw [if_pos ⟨Nat.zero_le _, by rw [size_flatK]; simp [hn']; omega⟩, Nat.sub_zero, getElem!_pos _ i (by rw [size_flatK]; simp [hn']; omega)]
          rfl
    · refine ⟨rfl, rfl, rfl, by rw [hsz]; omega, fun j hj => ?_⟩
      rw [hheap j (by omega), Array.getElem?_modify, if_neg (by omega)]

/-! ### The order of words -/
theorem compareInt_lt (a b : Int) : Lib.compareInt a b < 0 ↔ a < b := by unfold Lib.compareInt; split <;> (try split) <;> simp_all <;> omega
theorem compareInt_zero (a b : Int) : Lib.compareInt a b = 0 ↔ a = b := by unfold Lib.compareInt; split <;> (try split) <;> simp_all <;> omega
theorem orI_lt (a b c d : Int) : orI (Lib.compareInt a b) (Lib.compareInt c d) < 0 ↔ a < b ∨ (a = b ∧ c < d) := by
  unfold orI
  by_cases h : Lib.compareInt a b = 0
  · rw [if_pos h, compareInt_lt]
    have := (compareInt_zero a b).1 h
    omega
  · rw [if_neg h, compareInt_lt]
    have : ¬ a = b := fun e => h ((compareInt_zero a b).2 e)
    omega
/-- Two numbers are compared, then two more. -/
theorem swo_or {α : Type} (p q : α → Int) : SWO (ltOf fun x y : α => orI (Lib.compareInt (p x) (p y)) (Lib.compareInt (q x) (q y))) where
  irrefl x := by unfold ltOf; rw [decide_eq_false_iff_not, orI_lt]; omega
  trans x y z h1 h2 := by unfold ltOf at *; rw [decide_eq_true_eq, orI_lt] at *; omega
  ntrans x y z h1 h2 := by unfold ltOf at *; rw [decide_eq_false_iff_not, orI_lt] at *; omega
end

section
set_option maxRecDepth 100000
set_option linter.unusedVariables false
open Go.RowKit Go.Shelf Go.Sort

theorem info3i : (Tryz.prog.info? 3).map (fun i => (i.zero, i.size, i.bytes)) = some (some (.int .i64 0), 1, 8) := by kernel_rfl
theorem info_word : (Tryz.prog.info? 140).map (fun i => (i.zero, i.size, i.bytes)) = some (some (.agg #[.int .i64 0, .int .i64 0, .int .u64 0]), 3, 24) := by kernel_rfl
def encW (x : Wn) : List Value := [.int .i64 (x.1 : Int), .int .i64 (x.2.1 : Int), .int .u64 (x.2.2 : Int)]
theorem encW_len (x : Wn) : (encW x).length = 3 := rfl
theorem encW_one (x : Wn) : ∀ u ∈ encW x, u.oneCell' = true := by
  intro u hu
  simp [encW] at hu
  rcases hu with rfl | rfl | rfl <;> rfl
/-- Words without their numbers yet. -/
def w0 (ps : List Wd) : List Wn := ps.map fun p => (p.1, p.2, 0)
theorem uws_append : ∀ (a b : List Nat) (i : Nat), uws i (a ++ b) = uws i a ++ uws (i + a.length) b
  | [], b, i => by simp [uws]
  | x :: a, b, i => by
    simp only [List.cons_append, uws]
    rw [uws_append a b (i + 1), List.length_cons, show i + 1 + a.length = i + (a.length + 1) by omega]
    split <;> rfl
theorem uws_take (l : List Nat) (i : Nat) (h : i < l.length) : uws 0 (l.take (i + 1)) = uws 0 (l.take i) ++ (if l[i]?.getD 0 = 0 then [] else [(i, l[i]?.getD 0)]) := by
  rw [take_snoc l i h, uws_append]
  have : (l.take i).length = i := by rw [List.length_take]; omega
  rw [this, Nat.zero_add]
  simp only [uws]
theorem uws_len : ∀ (l : List Nat) (i : Nat), (uws i l).length ≤ l.length
  | [], i => Nat.le_refl _
  | x :: l, i => by
    have := uws_len l (i + 1)
    unfold uws
    split <;> simp <;> omega

def cfW (x y : Wn) : Int := orI (Lib.compareInt (x.2.1 : Int) (y.2.1 : Int)) (Lib.compareInt (x.1 : Int) (y.1 : Int))
theorem cmpLaysW (blk off size : Nat) (w : World) : CmpLays Tryz.prog 172 #[] encW 3 cfW blk off size w :=
  fun _ _ _ _ x y => closW (x.1 : Int) (x.2.1 : Int) (x.2.2 : Int) (y.1 : Int) (y.2.1 : Int) (y.2.2 : Int) _
theorem entersW : ∀ args w, (callFunc 172 args).run Tryz.prog w = .ok (.enter 172 args) w := enters_of Tryz.func172 (by kernel_rfl) rfl
theorem sortW_any (ps : List Wd) (n : Nat) (hn : ps.length = n) (h64 : n ≤ 64) (base : Nat) (v : Value) (w : World) (h : w.ownsRow base 140 3 v n ((w0 ps).flatMap encW)) :
    Calls Tryz.prog 171 #[v, .func (.func 172) #[] #[]] w fun e w' => e = .returned (.tuple #[]) ∧ w'.ownsRow base 140 3 v n ((w0 (wsort ps)).flatMap encW) ∧ Below base w w' := by
  rcases h.2 with ⟨rfl, h0⟩ | ⟨g, cap, cur, rfl, hb, hg, h1, h2, h3, h4⟩
  · subst h0
    have : ps = [] := List.eq_nil_of_length_eq_zero hn
    subst this
    exact (AnyF.slices_SortFunc_none sortW none 0 _ w).mono fun e w' ⟨he, hw⟩ => by
      subst hw
      exact ⟨he, h, Below.refl _ _⟩
  · have hl : (w0 ps).length = n := by rw [w0, List.length_map]; exact hn
    have hgs : g < w.heap.size := (Array.getElem?_eq_some_iff.1 hg).1
    have hcon := AnyQ.slices_SortFunc sortW 3 Tryz.isAgg140 Tryz.sizeOf140 encW encW_len encW_one cfW (swo_or (fun x : Wn => (x.2.1 : Int)) (fun x : Wn => (x.1 : Int))) 172 #[] g 0 cap (w0 ps).toArray w entersW (cmpLaysW g 0 _ w) (own_holdsK encW 3 encW_len (w0 ps) h hl) hgs (by simp [hl]; omega)
    have es : (w0 ps).toArray.size = n := by simp [hl]
    rw [es] at hcon
    refine hcon.mono ?_
    rintro e w' ⟨he, d', m, os, hP, hS, rfl⟩
    obtain ⟨p1, p2⟩ := perm_list (by rw [es]; exact hP) (by rw [es]; exact hS)
    have hd : d'.toList = w0 (wsort ps) := by
      have hz : ∀ x ∈ d'.toList, x.2.2 = 0 := fun x hx => by
        have := p1.subset hx
        simp [w0] at this
        obtain ⟨a, b, _, rfl⟩ := this
        rfl
      have hm : d'.toList.map (fun x => (x.1, x.2.1)) = wsort ps := by
        refine wsort_uniq ?_ ?_
        · have := p1.map (fun x : Wn => (x.1, x.2.1))
          rw [List.toList_toArray] at this
          have e2 : (w0 ps).map (fun x : Wn => (x.1, x.2.1)) = ps := by simp [w0, Function.comp_def]
          rwa [e2] at this
        · refine List.pairwise_map.2 (p2.imp fun {x y} hxy => ?_)
          unfold ltOf cfW at hxy
          rw [decide_eq_false_iff_not, orI_lt] at hxy
          unfold wle
          simp only
          omega
      rw [← hm, w0, List.map_map]
      conv => lhs; rw [← List.map_id d'.toList]
      refine List.map_congr_left fun x hx => ?_
      have := hz x hx
      obtain ⟨a, b, c⟩ := x
      simp at this
      subst this
      rfl
    have hl' : (w0 (wsort ps)).length = n := by rw [w0, List.length_map, (wsort_perm ps).length_eq]; exact hn
    have e3 : d' = (w0 (wsort ps)).toArray := by rw [← hd]
    rw [e3]
    exact ⟨he, put_own encW 3 encW_len (w0 ps) (w0 (wsort ps)) h hl hl' m os⟩

/-- New cells, read one by one. -/
theorem news_row (w : World) (vs : List Value) (T : TypeId) : ∀ j u, vs[j]? = some u → (w.alloc (.cells vs.toArray T)).cell? ((⟨w.heap.size, 0, none⟩ : Addr).add j) = some u := by
  intro j u hu
  have ha : (⟨w.heap.size, 0, none⟩ : Addr).add j = ⟨w.heap.size, 0 + j, none⟩ := by unfold Addr.add; split <;> simp_all
  rw [ha, cell_at (World.alloc_heap_new w (.cells vs.toArray T)), Nat.zero_add]
  simpa using hu
theorem grown_low {w w' : World} {B : Nat} {v : Value} {n k : Nat} {T : TypeId} {xs : List Value} (h : w.grownBy w' v.ownBlock) (ho : w.ownsRow B T k v n xs) (hB : B ≤ w.heap.size) : Below B w w' := by
  refine ⟨h.os, h.tape, h.output, h.size, fun j hj => h.block j (by omega) ?_⟩
  intro e
  rcases ho.2 with ⟨rfl, _⟩ | ⟨g, cap, cur, rfl, hb, _⟩
  · simp [Value.ownBlock] at e
  · simp only [Value.ownBlock, Option.some.injEq] at e
    omega
theorem w0_snoc (U : List Wd) (p : Wd) : (w0 (U ++ [p])).flatMap encW = (w0 U).flatMap encW ++ encW (p.1, p.2, 0) := by simp [w0]
/-- At each round's head: the words of the first i. -/
def SwRel (l : List Nat) (w : World) (v p : Value) (wr : World) : Prop :=
  ∃ i : Nat, i ≤ l.length ∧ p = .int .i64 (i : Int) ∧ wr.ownsRow w.heap.size 140 3 v (uws 0 (l.take i)).length ((w0 (uws 0 (l.take i))).flatMap encW) ∧ Below w.heap.size w wr

set_option maxHeartbeats 1000000 in
theorem sorted_ok (l : List Nat) (n : Nat) (hn : l.length = n) (h64 : n ≤ 64) (A : Option Addr) (c : Nat) (w : World) (h : RdV w w.heap.size A (zc (ns l))) :
    Calls Tryz.prog 132 #[.slice A n c] w fun e w' => ∃ v, e = .returned v ∧ w'.ownsRow w.heap.size 140 3 v (uws 0 l).length ((w0 (wsort (uws 0 l))).flatMap encW) ∧ Below w.heap.size w w' := by
  obtain ⟨i0, hi, hz0, hz1, hz2⟩ := info_parts info_word
  have HR := Lib.hid h; clear h
  have HN := Lib.hid hn; clear hn
  have H64 : Hid ((uws 0 l).length ≤ 64) := by have := uws_len l 0; show _ ≤ _; rw [HN.out] at this; omega
  go_enter Tryz.func132, Tryz.ntmps132
  go_wp2
  go_loopw [3, 8] (fun v p wr => SwRel l w v p wr) (fun _ p _ => n - (intOf p).toNat)
  case atStart => exact ⟨0, Nat.zero_le _, rfl, ⟨rfl, .inl ⟨rfl, rfl⟩⟩, Below.refl _ _⟩
  case round =>
    obtain ⟨i, hi', rfl, hrow, hbel⟩ := hrel
    rw [HN.out] at hi'
    by_cases hlt : i < n
    · have hin : i < l.length := by rw [HN.out]; exact hlt
      have hR := HR.out.below hbel hbel.size
      obtain ⟨b, off, rfl, hb, hc⟩ := hR.at_ (ns_get l i hin)
      have htk := uws_take l i hin
      have hul := uws_len (l.take i) 0
      rw [List.length_take] at hul
      have HB := Lib.hid hbel; clear hbel hR
      generalize uws 0 (l.take i) = U at *
      generalize l[i]?.getD 0 = x at *
      by_cases hx : x = 0
      · subst hx
        rw [if_pos rfl, List.append_nil] at htk
        have HT := Lib.hid htk; clear htk
        have HO := Lib.hid hrow; clear hrow
        go_wp2
        go_roundw
        case rel => exact ⟨i + 1, by rw [HN.out]; omega, by go_num, by rw [HT.out]; exact HO.out, HB.out⟩
        case measure => simp [intOf]; omega
      · rw [if_neg hx] at htk
        have HT := Lib.hid htk; clear htk
        have hx0 : 0 < x := by omega
        have t0 : decide ((0 : Int) < (x : Int)) = true := by simp; omega
        clear hx
        go_wp2_with (at_builtin; refine wpList_append_own _ rfl _ _ 136 rfl w.heap.size 140 i0 (.agg #[.int .i64 0, .int .i64 0, .int .u64 0]) 3 24 Tryz.underlying136 hi hz0 hz1 hz2 rfl (by decide) _ _ _ rfl (hrow.alloc _) ⟨wr.heap.size, 0, none⟩ 1 1 (encW (i, x, 0)) rfl rfl (news_row wr (encW (i, x, 0)) _) (encW_one _) (by unfold maxLen; omega) (by omega) (by have := HB.out.size; simp; omega) ?_; intro v' w3 hown' hgrow _)
        have HO3 := Lib.hid hown'
        have HB3 : Hid (Below w.heap.size w w3) := HB.out.trans (((Below.refl w.heap.size wr).alloc HB.out.size _).trans (grown_low hgrow (hrow.alloc _) (by have := HB.out.size; simp; omega)))
        clear hown' hgrow hrow
        go_roundw
        case rel => exact ⟨i + 1, by rw [HN.out]; omega, by go_num, by rw [HT.out, w0_snoc, List.length_append]; exact HO3.out, HB3.out⟩
        case measure => simp [intOf]; omega
    · have ht : l.take i = l := List.take_of_length_le (by rw [HN.out]; omega)
      rw [ht] at hrow
      have hrow' := sortW_any (uws 0 l) _ rfl H64.out w.heap.size _ wr hrow
      have HS := Lib.hid hrow'
      have HB := Lib.hid hbel
      clear hrow hrow' hbel ht
      go_wp2_with fail
      refine HS.out.mono ?_
      rintro e w2 ⟨rfl, o2, b2⟩
      have HO2 := Lib.hid o2; have HB2 := Lib.hid (HB.out.trans b2); clear o2 b2
      go_wp2
      go_ret
      exact ⟨_, rfl, HO2.out, HB2.out⟩
end

section
set_option maxRecDepth 100000
set_option linter.unusedVariables false
open Go.RowKit Go.Shelf Go.Sort

theorem OwnAt.holdsK {α : Type} [Inhabited α] (enc : α → List Value) (k : Nat) (hk : ∀ x, (enc x).length = k) {w : World} {base : Nat} {e : TypeId} {g off n cap : Nat} (l : List α)
    (h : OwnAt w base e k g off n cap (l.flatMap enc)) (hn : l.length = n) : HoldsK enc k w g off l.toArray := by
  intro j hj
  rw [size_flatK] at hj
  have hj2 : j < n * k := by simpa [hn] using hj
  have hfl := flatK_list enc k hk l
  have hx : (l.flatMap enc)[j]? = some (flatK enc k l.toArray)[j]! := by
    rw [← hfl, getElem!_pos _ j (by rw [size_flatK]; exact hj)]; simp
  exact h.cell hx
theorem OwnAt.put {α : Type} [Inhabited α] (enc : α → List Value) (k : Nat) (hk : ∀ x, (enc x).length = k) {w : World} {base : Nat} {e : TypeId} {g off n cap : Nat} (l l' : List α)
    (h : OwnAt w base e k g off n cap (l.flatMap enc)) (hn : l.length = n) (hn' : l'.length = n) (m : Nat) (os : Array Obj) :
    OwnAt (sortWorldK enc k w g off m l'.toArray os) base e k g off n cap (l'.flatMap enc) ∧ Below base w (sortWorldK enc k w g off m l'.toArray os) ∧ ∀ j, j ≠ g → j < w.heap.size → (sortWorldK enc k w g off m l'.toArray os).heap[j]? = w.heap[j]? := by
  obtain ⟨q1, hb, h1, h2, cur, hg, h3, h4⟩ := h
  have hgs : g < w.heap.size := (Array.getElem?_eq_some_iff.1 hg).1
  have hc : n * k ≤ cap * k := Nat.mul_le_mul_right k h1
  have hsz : (sortWorldK enc k w g off m l'.toArray os).heap.size = w.heap.size + os.size := by
    unfold sortWorldK; rw [size_grow]; unfold putRowK; rw [size_putRow]; rfl
  have hheap : ∀ j, j < w.heap.size → (sortWorldK enc k w g off m l'.toArray os).heap[j]? = (w.heap.modify g (onCells (putCells id off (flatK enc k l'.toArray))))[j]? := by
    intro j hj
    unfold sortWorldK
    rw [heap_grow_old _ _ (by unfold putRowK; rw [size_putRow]; exact hj)]
    rfl
  refine ⟨⟨by rw [flatMap_len enc k hk, hn'], hb, h1, h2, putCells id off (flatK enc k l'.toArray) cur, ?_, by simp [putCells]; exact h3, ?_⟩, ⟨rfl, rfl, rfl, by rw [hsz]; omega, fun j hj => ?_⟩, fun j hj hjs => ?_⟩
  · rw [hheap g hgs, Array.getElem?_modify, hg]; simp [onCells]
  · rw [← flatK_list enc k hk l']
    apply List.ext_getElem
    · simp [putCells, size_flatK, hn']; omega
    · intro i q1 q2
      have hi : i < n * k := by simp [size_flatK, hn'] at q2; exact q2
      simp only [putCells, List.getElem_take, List.getElem_drop, Array.getElem_toList, Array.getElem_mapIdx]
      rw [if_pos ⟨by omega, by rw [size_flatK]; simp [hn']; omega⟩, Nat.add_sub_cancel_left, getElem!_pos _ i (by rw [size_flatK]; simp [hn']; omega)]
      rfl
  · rw [hheap j (by omega), Array.getElem?_modify, if_neg (by omega)]
  · rw [hheap j hjs, Array.getElem?_modify, if_neg (fun e => hj e.symm)]

def cfG (x y : Gx) : Int := orI (Lib.compareInt (x.1.1 : Int) (y.1.1 : Int)) (Lib.compareInt (x.1.2.1 : Int) (y.1.2.1 : Int))
theorem cmpLaysG (blk off size : Nat) (w : World) : CmpLays Tryz.prog 87 #[] encG 3 cfG blk off size w :=
  fun _ _ _ _ x y => closG (x.1.1 : Int) (x.1.2.1 : Int) (y.1.1 : Int) (y.1.2.1 : Int) (.slice x.2.1 x.1.2.2.length x.2.2) (.slice y.2.1 y.1.2.2.length y.2.2) _
theorem entersG : ∀ args w, (callFunc 87 args).run Tryz.prog w = .ok (.enter 87 args) w := enters_of Tryz.func87 (by kernel_rfl) rfl
theorem sortG_any (xs : List Gx) (n : Nat) (hn : xs.length = n) (h64 : n ≤ 64) (base gb off cap : Nat) (w : World) (h : OwnAt w base 128 3 gb off n cap (xs.flatMap encG)) :
    Calls Tryz.prog 86 #[.slice (some ⟨gb, off, none⟩) n cap, .func (.func 87) #[] #[]] w fun e w' => e = .returned (.tuple #[]) ∧ ∃ ys : List Gx, ys.Perm xs ∧ (ys.map (fun x : Gx => x.1)).Pairwise gle ∧ OwnAt w' base 128 3 gb off n cap (ys.flatMap encG) ∧ Below base w w' ∧ ∀ j, j ≠ gb → j < w.heap.size → w'.heap[j]? = w.heap[j]? := by
  have hcon := AnyQ.slices_SortFunc sortG 3 Tryz.isAgg128 Tryz.sizeOf128 encG encG_len encG_one cfG (swo_or (fun x : Gx => (x.1.1 : Int)) (fun x : Gx => (x.1.2.1 : Int))) 87 #[] gb off cap xs.toArray w entersG (cmpLaysG gb off _ w) (h.holdsK encG 3 encG_len xs hn) h.lt (by simp [hn]; omega)
  have es : xs.toArray.size = n := by simp [hn]
  rw [es] at hcon
  refine hcon.mono ?_
  rintro e w' ⟨he, d', m, os, hP, hS, rfl⟩
  obtain ⟨p1, p2⟩ := perm_list (by rw [es]; exact hP) (by rw [es]; exact hS)
  rw [List.toList_toArray] at p1
  have hl' : d'.toList.length = n := by rw [p1.length_eq]; exact hn
  have hput := h.put encG 3 encG_len xs d'.toList hn hl' m os
  rw [Array.toArray_toList] at hput
  refine ⟨he, d'.toList, p1, ?_, hput⟩
  refine List.pairwise_map.2 (p2.imp fun {x y} hxy => ?_)
  unfold ltOf cfG at hxy
  rw [decide_eq_false_iff_not, orI_lt] at hxy
  unfold gle
  omega
end

section
set_option maxRecDepth 100000
set_option linter.unusedVariables false
open Go.RowKit Go.Shelf Go.Sort

def lenV : Value → Nat
  | .slice _ n _ => n
  | _ => 0
/-- At each round's head: the groups that are left, and the lengths so far. -/
def DpRel (many : Nat) (T : Nat → Nat) (w : World) (base gl : Nat) (v : Value) (wr : World) : Prop :=
  ∃ (xs : List Gx) (L : Nat → Nat) (gb off cap : Nat), v = .slice (some ⟨gb, off, none⟩) xs.length cap ∧ 1 ≤ xs.length ∧ xs.length ≤ 64 ∧ OwnAt wr base 128 3 gb off xs.length cap (xs.flatMap encG) ∧
    wr.ownsRow w.heap.size 3 1 (.slice (some ⟨gl, 0, none⟩) many many) many (zc (ns (rng many L))) ∧ (∀ x ∈ xs, SyO wr base (some gl) x) ∧ Gok many (xs.map (fun x : Gx => x.1)) ∧ hrun (xs.length - 1) (xs.map (fun x : Gx => x.1)) L = T ∧
    (∀ s, L s + 64 * xs.length ≤ 4096) ∧ Below base w wr

theorem zc_nsetD (l : List Nat) (i u : Nat) : zc (ns (l.set i u)) = (zc (ns l)).set i (.int .i64 (u : Int)) := by simp [zc, ns, List.map_set]
def InRel (many : Nat) (L : Nat → Nat) (S : List Nat) (gl lb : Nat) (W6 : World) (p : Value) (wr : World) : Prop :=
  ∃ i : Nat, i ≤ S.length ∧ p = .int .i64 (i : Int) ∧ wr.ownsRow lb 3 1 (.slice (some ⟨gl, 0, none⟩) many many) many (zc (ns (rng many (bump L (S.take i))))) ∧ (∀ j, j ≠ gl → wr.heap[j]? = W6.heap[j]?) ∧ wr.heap.size = W6.heap.size ∧ Below gl W6 wr
theorem made_rng (k : Nat) : (madeCells (Value.int .i64 0).cells (k * 1)).toList = zc (ns (rng k (fun _ => 0))) := by
  rw [show (Value.int .i64 0).cells = #[Value.int .i64 0] from rfl, toList_madeCells_one, Nat.mul_one, rng_zero]
  simp [zc, ns]

theorem deep_next (xs : List Gx) (n : Nat) (many : Nat) (T : Nat → Nat) (w wr V w8 : World) (base gl gb off8 cap8 g8 wa la wb lb ws lm : Nat) (Sa Sb S : List Nat) (A5 : Option Addr) (c5 N5 m w2s : Nat) (zs : List Gx) (L : Nat → Nat)
    (hS : S.length = N5) (hS64 : N5 ≤ 64) (hzm : zs.length = m) (hnm : n = m + 2) (hn64 : n ≤ 64) (hL : ∀ s, L s + 64 * n ≤ 4096) (hJ : joinG (wa, la, Sa) (wb, lb, Sb) = (ws, lm, S)) (hgs : gsort (xs.map (fun x : Gx => x.1)) = (wa, la, Sa) :: (wb, lb, Sb) :: zs.map (fun x : Gx => x.1)) (hrun : hrun (n - 1) (xs.map (fun x : Gx => x.1)) L = T)
    (hok : Gok many ((wa, la, Sa) :: (wb, lb, Sb) :: zs.map (fun x : Gx => x.1)))
    (ho : OwnAt w8 base 128 3 g8 off8 (m + 1) cap8 (zs.flatMap encG ++ [.int .i64 (ws : Int), .int .i64 (lm : Int), .slice A5 N5 c5])) (hV : Below wr.heap.size wr V) (hg : V.grownBy w8 (some gb)) (hty : ∃ cur, wr.heap[gb]? = some (.cells cur 128 (0, 0)))
    (hl : wr.ownsRow w.heap.size 3 1 (.slice (some ⟨gl, 0, none⟩) many many) many (zc (ns (rng many (bump L S))))) (hsy : ∀ x ∈ zs, SyO wr base (some gl) x) (hs5 : wr.ownsRow w2s 3 1 (.slice A5 N5 c5) N5 (zc (ns S))) (hw2 : gl < w2s) (hbw : base ≤ w2s) (hb : Below base w wr) (hbase : base ≤ wr.heap.size) (hgbb : base ≤ gb) :
    DpRel many T w base gl (.slice (some ⟨g8, off8, none⟩) (m + 1) cap8) w8 := by
  have hjS : Sa ++ Sb = S := congrArg (fun g : Gp => g.2.2) hJ
  have key : ∀ (j : Nat) (cs : Array Value), wr.heap[j]? = some (.cells cs 3 (0, 0)) → w8.heap[j]? = wr.heap[j]? := by
    intro j cs hj
    have hlt := (Array.getElem?_eq_some_iff.1 hj).1
    refine (hg.block j (Nat.lt_of_lt_of_le hlt hV.size) (fun e => ?_)).trans (hV.block j hlt)
    simp only [Option.some.injEq] at e
    subst e
    obtain ⟨cur, hc⟩ := hty
    rw [hj] at hc
    simp at hc
  have own_ : ∀ {b : Nat} {v : Value} {k : Nat} {ys : List Value}, wr.ownsRow b 3 1 v k ys → w8.ownsRow b 3 1 v k ys := by
    intro b v k ys h
    refine ⟨h.1, ?_⟩
    rcases h.2 with hn | ⟨g, cap, cur, rfl, hb, hgg, hr⟩
    · exact .inl hn
    · exact .inr ⟨g, cap, cur, rfl, hb, (key g cur hgg).trans hgg, hr⟩
  have hlen : (zs ++ [(((ws, lm, S), A5, c5) : Gx)]).length = m + 1 := by rw [List.length_append, hzm]; rfl
  have henc : (zs ++ [(((ws, lm, S), A5, c5) : Gx)]).flatMap encG = zs.flatMap encG ++ [.int .i64 (ws : Int), .int .i64 (lm : Int), .slice A5 N5 c5] := by
    rw [List.flatMap_append]
    congr 1
    simp [encG, hS]
  have hmap : (zs ++ [(((ws, lm, S), A5, c5) : Gx)]).map (fun x : Gx => x.1) = zs.map (fun x : Gx => x.1) ++ [joinG (wa, la, Sa) (wb, lb, Sb)] := by rw [List.map_append, hJ]; rfl
  refine ⟨zs ++ [((ws, lm, S), A5, c5)], bump L S, g8, off8, cap8, by rw [hlen], by rw [hlen]; omega, by rw [hlen]; omega, by rw [hlen, henc]; exact ho, own_ hl, fun x hx => ?_, by rw [hmap]; exact hok.join, ?_, fun s => ?_, ?_⟩
  · rcases List.mem_append.1 hx with hx | hx
    · exact (hsy x hx).keep fun j _ ⟨cs, hj⟩ => key j cs hj
    · rw [List.mem_singleton] at hx
      subst hx
      have h5 := hs5
      rw [← hS] at h5
      refine ⟨own_base (own_ h5) hbw, fun a ha e => ?_⟩
      obtain ⟨b1, b2⟩ := h5.lt a.block (by simp only at ha; rw [ha]; rfl)
      simp only [Option.some.injEq] at e
      omega
  · rw [hlen, hmap, Nat.add_sub_cancel, ← hjS, ← hrun, show n - 1 = m + 1 by omega, hrun_step m L hgs]
  · rw [hlen]
    have h1 := hL s
    have h2 := List.count_le_length (a := s) (l := S)
    unfold bump
    omega
  · exact (hb.trans (hV.mono hbase)).grown hg (Nat.le_trans hbase hV.size) (fun k hk => by simp only [Option.some.injEq] at hk; omega)
set_option maxHeartbeats 8000000 in
theorem deepen_two (gs : List Gp) (many : Nat) (hm : many ≤ 64) (hok : Gok many gs) (T : Nat → Nat) (h2 : 2 ≤ gs.length) (hT : hrun (gs.length - 1) gs (fun _ => 0) = T) (h64 : gs.length ≤ 64) (base : Nat) (v : Value) (w : World) (hg : GRow w base v gs) (hbase : base ≤ w.heap.size) :
    Calls Tryz.prog 44 #[v, .int .i64 (many : Int)] w fun e w' => ∃ g, e = .returned (.slice (some ⟨g, 0, none⟩) many many) ∧ w'.ownsRow w.heap.size 3 1 (.slice (some ⟨g, 0, none⟩) many many) many (zc (ns (rng many T))) ∧ Below base w w' := by
  obtain ⟨i0, hi, hz0, hz1, hz2⟩ := info_parts info3i
  obtain ⟨j0, hj, hj0, hj1, hj2⟩ := info_parts info_group
  obtain ⟨xs, rfl, hrow, hsy⟩ := hg
  rw [List.length_map] at hrow h2 h64 hT
  obtain ⟨gb, cap, rfl, hgb, hgb2⟩ := hrow.form (by omega)
  have HRow : Hid (OwnAt w base 128 3 gb 0 xs.length cap (xs.flatMap encG)) := Lib.hid (OwnAt.of_row hrow)
  have HSy := Lib.hid hsy; have HOk := Lib.hid hok; have HT := Lib.hid hT
  clear hrow hsy hok hT
  have hN : ∃ n, xs.length = n := ⟨_, rfl⟩
  obtain ⟨n, hn⟩ := hN
  have HN := Lib.hid hn
  rw [hn] at h2 h64 ⊢
  clear hn
  have t0 : ((n : Int) == 1) = false := by simp; omega
  go_enter Tryz.func44, Tryz.ntmps44
  go_wp2_with (at_make; refine wpList_make_full _ rfl _ _ 22 rfl w.heap.size 3 i0 (.int .i64 0) 1 Tryz.underlying22 hi hz0 hz1 _ _ _ _ many rfl rfl rfl rfl (by rw [hz2]; omega) (by unfold maxLen; omega) (Nat.le_refl _) ?_; intro w3 hown1 hgrow1; rw [made_rng] at hown1; have HO := Lib.hid hown1; have HG : Hid (w.grownBy w3 none) := Lib.hid hgrow1; clear hown1 hgrow1)
  obtain ⟨gl, hgl⟩ : ∃ gl, w.heap.size = gl := ⟨_, rfl⟩
  have HGl := Lib.hid hgl
  rw [hgl] at HO ⊢
  clear hgl
  have HS0 : Hid (DpRel many T w base gl (.slice (some ⟨gb, 0, none⟩) n cap) w3) := by
    have hsame : ∀ j : Nat, j < w.heap.size → w3.heap[j]? = w.heap[j]? := fun j hj => HG.out.block j hj (by simp)
    refine ⟨xs, fun _ => 0, gb, 0, cap, by rw [HN.out], by rw [HN.out]; omega, by rw [HN.out]; exact h64, HRow.out.same (hsame gb hgb2), by rw [HGl.out]; exact HO.out, fun x hx => ?_, HOk.out, by rw [HT.out], fun s => by rw [HN.out]; show 0 + 64 * n ≤ 4096; omega, (Below.refl _ w).grown HG.out hbase (fun k hk => by cases hk)⟩
    have hx0 := HSy.out x hx
    refine ⟨(hx0.keep (fun j _ ⟨cs, hj⟩ => hsame j (Array.getElem?_eq_some_iff.1 hj).1)).1, fun a ha e => ?_⟩
    obtain ⟨b1, b2⟩ := hx0.1.lt a.block (by simp [Value.ownBlock, ha])
    simp only [Option.some.injEq] at e
    have := HGl.out
    omega
  clear HO HG HRow HSy HOk HT HN t0 h2 h64 hgb hgb2
  go_wp2
  go_loopw [0] (fun v wr => DpRel many T w base gl v wr) (fun v _ => lenV v)
  case atStart => exact HS0.out
  case round =>
    clear HS0
    obtain ⟨xs, L, gb, off, cap, rfl, q1, q64, hrow, hl, hsy, hok, hrun, hL, hbel⟩ := hrel
    obtain ⟨n, hn⟩ : ∃ n, xs.length = n := ⟨_, rfl⟩
    have HN := Lib.hid hn
    rw [hn] at q1 q64 hrow hrun hL ⊢
    by_cases hlt : 1 < n
    · have hbw : base ≤ wr.heap.size := Nat.le_trans (Nat.le_of_lt (Nat.lt_of_le_of_lt hrow.2.1 hrow.lt)) (Nat.le_refl _)
      have HSort := Lib.hid (sortG_any xs n hn q64 base gb off cap wr hrow)
      have HLrow := Lib.hid hl; have HSy := Lib.hid hsy; have HOk := Lib.hid hok; have HRun := Lib.hid hrun; have HL := Lib.hid hL; have HBel := Lib.hid hbel; have HOA := Lib.hid hrow
      clear hrow hl hsy hok hrun hL hbel hn
      go_wp2_with fail
      refine HSort.out.mono ?_
      rintro e w2 ⟨rfl, ys, hperm, hpw, hrow2, hb2, hoth⟩
      have hyn : ys.length = n := by rw [hperm.length_eq]; exact HN.out
      obtain ⟨xa, xb, zs, rfl⟩ : ∃ xa xb zs, ys = xa :: xb :: zs := by
        match ys, hyn with
        | [], h => simp at h; omega
        | [_], h => simp at h; omega
        | a :: b :: t, _ => exact ⟨a, b, t, rfl⟩
      have hgs : gsort (xs.map (fun x : Gx => x.1)) = (xa :: xb :: zs).map (fun x : Gx => x.1) := (gsort_uniq (hperm.map _) hpw (HOk.out.1)).symm
      have htyp := HOA.out.type
      have HSy2 : Hid (∀ x ∈ xa :: xb :: zs, SyO w2 base (some gl) x) := fun x hx => (HSy.out x (hperm.subset hx)).keep fun j _ ⟨cs, hj⟩ => hoth j (fun e => by
        subst e
        obtain ⟨cur, hc⟩ := htyp
        rw [hj] at hc
        simp at hc) (Array.getElem?_eq_some_iff.1 hj).1
      have HL2 : Hid (w2.ownsRow w.heap.size 3 1 (.slice (some ⟨gl, 0, none⟩) many many) many (zc (ns (rng many L)))) := own_sameC HLrow.out fun g _ hg => by
        simp only [Value.ownBlock, Option.some.injEq] at hg
        subst hg
        rcases HLrow.out.2 with ⟨h, _⟩ | ⟨g', cap', cur', hv, _, hgg, _⟩
        · cases h
        · simp only [Value.slice.injEq, Option.some.injEq, Addr.mk.injEq, and_true, true_and] at hv
          obtain ⟨rfl, _⟩ := hv
          refine hoth _ (fun e => ?_) (Array.getElem?_eq_some_iff.1 hgg).1
          obtain ⟨cur, hc⟩ := htyp
          rw [← e, hgg] at hc
          simp at hc
      have HOk2 : Hid (Gok many ((xa :: xb :: zs).map (fun x : Gx => x.1))) := HOk.out.perm (hperm.map _)
      have HB2 : Hid (Below base w w2) := HBel.out.trans hb2
      have HO2 := Lib.hid hrow2
      have HGs : Hid (gsort (xs.map (fun x : Gx => x.1)) = xa.1 :: xb.1 :: zs.map (fun x : Gx => x.1)) := hgs
      have HYn := Lib.hid hyn
      clear HSort HOA htyp hoth hb2 hperm hpw hgs hyn hrow2 HLrow HSy HOk HBel
      obtain ⟨⟨wa, la, Sa⟩, Aa, ca⟩ := xa
      obtain ⟨⟨wb, lb, Sb⟩, Ab, cb⟩ := xb
      have hka := HOk2.out.2.1 (wa, la, Sa) (by simp)
      have hkb := HOk2.out.2.1 (wb, lb, Sb) (by simp)
      simp only at hka hkb
      have hfl := HOk2.out.2.2
      simp only [List.map_cons, flat, List.flatMap_cons, List.length_append] at hfl
      have hya := HSy2.out ((wa, la, Sa), Aa, ca) (by simp)
      have hyb := HSy2.out ((wb, lb, Sb), Ab, cb) (by simp)
      have c0 := (HO2.out.cell (j := 0) (u := .int .i64 (wa : Int)) (by simp [encG])).1
      have c1 := (HO2.out.cell (j := 1) (u := .int .i64 (la : Int)) (by simp [encG])).1
      have c2 := (HO2.out.cell (j := 2) (u := .slice Aa Sa.length ca) (by simp [encG])).1
      have c3 := (HO2.out.cell (j := 3) (u := .int .i64 (wb : Int)) (by simp [encG])).1
      have c4 := (HO2.out.cell (j := 4) (u := .int .i64 (lb : Int)) (by simp [encG])).1
      have c5 := (HO2.out.cell (j := 5) (u := .slice Ab Sb.length cb) (by simp [encG])).1
      obtain ⟨ws, hws⟩ : ∃ ws, wa + wb = ws := ⟨_, rfl⟩
      obtain ⟨lm, hlm⟩ : ∃ lm, min la lb = lm := ⟨_, rfl⟩
      have HJ : Hid (∀ V, Below w2.heap.size w2 V → Calls Tryz.prog 90 #[.agg #[.int .i64 (wa : Int), .int .i64 (la : Int), .slice Aa Sa.length ca], .agg #[.int .i64 (wb : Int), .int .i64 (lb : Int), .slice Ab Sb.length cb]] V fun e w' => ∃ A c, e = .returned (.agg #[.int .i64 (ws : Int), .int .i64 (lm : Int), .slice A (Sa.length + Sb.length) c]) ∧ w'.ownsRow V.heap.size 3 1 (.slice A (Sa.length + Sb.length) c) (Sa.length + Sb.length) (zc (ns (Sa ++ Sb))) ∧ Below V.heap.size V w') := fun V hV =>
        gjoin_any wa la wb lb ws lm (by omega) (by omega) (by omega) (by omega) hws hlm Sa Sb Sa.length Sb.length rfl rfl (by omega) (by omega) Aa Ab ca cb (own_none hya.1) (own_none hyb.1) V ((own_rdv hya.1).on hV) ((own_rdv hyb.1).on hV)
      have hgbw := HO2.out.lt
      have HK : Hid (∀ w' : World, Below w2.heap.size w2 w' → w'.cell? ⟨gb, off, none⟩ = some (.int .i64 (wa : Int)) ∧ w'.cell? ⟨gb, off + 1, none⟩ = some (.int .i64 (la : Int)) ∧ w'.cell? ⟨gb, off + 2, none⟩ = some (.slice Aa Sa.length ca) ∧ w'.cell? ⟨gb, off + 3, none⟩ = some (.int .i64 (wb : Int)) ∧ w'.cell? ⟨gb, off + 3 + 1, none⟩ = some (.int .i64 (lb : Int)) ∧ w'.cell? ⟨gb, off + 3 + 2, none⟩ = some (.slice Ab Sb.length cb)) := fun w' h =>
        ⟨(h.cell (p := ⟨gb, off, none⟩) hgbw).trans c0, (h.cell (p := ⟨gb, off + 1, none⟩) hgbw).trans c1, (h.cell (p := ⟨gb, off + 2, none⟩) hgbw).trans c2, (h.cell (p := ⟨gb, off + 3, none⟩) hgbw).trans c3, (h.cell (p := ⟨gb, off + 3 + 1, none⟩) hgbw).trans c4, (h.cell (p := ⟨gb, off + 3 + 2, none⟩) hgbw).trans c5⟩
      have HKb : Hid (∀ w' : World, w'.heap[gb]? = w2.heap[gb]? → w'.cell? ⟨gb, off, none⟩ = some (.int .i64 (wa : Int)) ∧ w'.cell? ⟨gb, off + 1, none⟩ = some (.int .i64 (la : Int)) ∧ w'.cell? ⟨gb, off + 2, none⟩ = some (.slice Aa Sa.length ca) ∧ w'.cell? ⟨gb, off + 3, none⟩ = some (.int .i64 (wb : Int)) ∧ w'.cell? ⟨gb, off + 3 + 1, none⟩ = some (.int .i64 (lb : Int)) ∧ w'.cell? ⟨gb, off + 3 + 2, none⟩ = some (.slice Ab Sb.length cb)) := fun w' h => by
        have key : ∀ j, w'.cell? ⟨gb, j, none⟩ = w2.cell? ⟨gb, j, none⟩ := fun j => World.cell?_of_block (a := ⟨gb, j, none⟩) h
        exact ⟨(key _).trans c0, (key _).trans c1, (key _).trans c2, (key _).trans c3, (key _).trans c4, (key _).trans c5⟩
      have hn1 : 1 < n := hlt
      have hn0 : 0 < n := by omega
      have HGlw : Hid (gl < w2.heap.size) := by
        rcases HL2.out.2 with ⟨h, _⟩ | ⟨g', cap', cur', hv, _, hgg, _⟩
        · cases h
        · simp only [Value.slice.injEq, Option.some.injEq, Addr.mk.injEq, and_true, true_and] at hv
          obtain ⟨rfl, _⟩ := hv
          exact (Array.getElem?_eq_some_iff.1 hgg).1
      have HNe : Hid (gb ≠ gl) := fun e => by
        obtain ⟨cur, hc⟩ := HO2.out.type
        rcases HL2.out.2 with ⟨h, _⟩ | ⟨g', cap', cur', hv, _, hgg, _⟩
        · cases h
        · simp only [Value.slice.injEq, Option.some.injEq, Addr.mk.injEq, and_true, true_and] at hv
          obtain ⟨rfl, _⟩ := hv
          rw [e, hgg] at hc
          simp at hc
      have HBw : Hid (base ≤ w2.heap.size) := Nat.le_trans HO2.out.2.1 (Nat.le_of_lt hgbw)
      obtain ⟨na, hna⟩ : ∃ na, Sa.length = na := ⟨_, rfl⟩
      obtain ⟨nb, hnb⟩ : ∃ nb, Sb.length = nb := ⟨_, rfl⟩
      have HNa := Lib.hid hna
      have HNb := Lib.hid hnb
      rw [hna] at HJ HK HKb hfl
      rw [hnb] at HJ HK HKb hfl
      clear c0 c1 c2 c3 c4 c5 hya hyb hna hnb
      obtain ⟨k0, k1, k2, k3, k4, k5⟩ := HK.out w2 (Below.refl _ _)
      go_wp2_with fail
      go_region_held3 (fun w' => w'.cell? ⟨gb, off, none⟩ = some (.int .i64 (wa : Int)) ∧ w'.cell? ⟨gb, off + 1, none⟩ = some (.int .i64 (la : Int)) ∧ w'.cell? ⟨gb, off + 2, none⟩ = some (.slice Aa na ca) ∧ w'.cell? ⟨gb, off + 3, none⟩ = some (.int .i64 (wb : Int)) ∧ w'.cell? ⟨gb, off + 3 + 1, none⟩ = some (.int .i64 (lb : Int)) ∧ w'.cell? ⟨gb, off + 3 + 2, none⟩ = some (.slice Ab nb cb))
        ((first | (refine HKb.out _ ?_; rw [Below.heap_setCell _ _ _ _ (show gb ≠ w2.heap.size by omega), Below.heap_setCell _ _ _ _ (show gb ≠ w2.heap.size by omega), Below.heap_setCell _ _ _ _ (show gb ≠ w2.heap.size by omega)]; exact hk5.out.block gb hgbw) | (refine HKb.out _ ?_; rw [Below.heap_setCell _ _ _ _ (show gb ≠ w5.heap.size by have := hk5.out.size; omega), Below.heap_setCell _ _ _ _ (show gb ≠ w5.heap.size by have := hk5.out.size; omega), Below.heap_setCell _ _ _ _ (show gb ≠ w5.heap.size by have := hk5.out.size; omega), Below.heap_alloc _ _ _ (by have := hk5.out.size; omega)]; exact hk5.out.block gb hgbw) | (refine HK.out _ ?_; first | exact hk5.out | exact hk5.out.alloc hk5.out.size _ | exact (Below.refl _ _).drew | exact ((Below.refl _ _).drew).alloc (Nat.le_refl _) _ | exact ((Below.refl _ _).alloc (Nat.le_refl _) _).drew)))
        (first
          | (go_at_call 90; refine (HJ.out _ (by first | exact (Below.refl _ _).drew | exact ((Below.refl _ _).drew).alloc (Nat.le_refl _) _ | exact ((Below.refl _ _).alloc (Nat.le_refl _) _).drew)).mono ?_; rintro e w5 ⟨A5, c5, rfl, r5, B5⟩; have hk5 : Hid (Below w2.heap.size w2 w5) := (by show Below _ _ _; first | exact ((Below.refl _ w2).drew).trans B5 | exact (((Below.refl _ w2).alloc (Nat.le_refl _) _).drew).trans (B5.mono (by simp))); have hr5 : Hid (w5.ownsRow w2.heap.size 3 1 (.slice A5 (na + nb) c5) (na + nb) (zc (ns (Sa ++ Sb)))) := own_base r5 (by first | exact Nat.le_refl _ | simp); first | (have hb7 : w5.heap[w2.heap.size]? = some (.cells #[.int .i64 0, .int .i64 0, .slice none 0 0] 128 (0, 0)) := (B5.block w2.heap.size (by simp)).trans (World.alloc_heap_new w2 _); have d0 := (cell_atC hb7 0).trans rfl; have d1 := (cell_atC hb7 1).trans rfl; have d2 := (cell_atC hb7 2).trans rfl; have f0 := frz_atC hb7 0; have f1 := frz_atC hb7 1; have f2 := frz_atC hb7 2; have Hb7 := Lib.hid hb7; clear hb7) | skip; clear B5 r5))
      · obtain ⟨W6, hW6⟩ : ∃ W6, w5.alloc (.cells #[.int .i64 (ws : Int), .int .i64 (lm : Int), .slice A5 (na + nb) c5] 128) = W6 := ⟨_, rfl⟩
        obtain ⟨Bb, hBb⟩ : ∃ Bb, w5.heap.size = Bb := ⟨_, rfl⟩
        have HBx : Hid (W6.heap[Bb]? = some (.cells #[.int .i64 (ws : Int), .int .i64 (lm : Int), .slice A5 (na + nb) c5] 128 (0, 0))) := by subst hW6; subst hBb; exact World.alloc_heap_new w5 _
        have HB6 : Hid (Below w2.heap.size w2 W6) := by subst hW6; exact hk5.out.alloc hk5.out.size _
        have HS6 : Hid (W6.ownsRow w2.heap.size 3 1 (.slice A5 (na + nb) c5) (na + nb) (zc (ns (Sa ++ Sb)))) := by subst hW6; exact hr5.alloc _
        have HBb : Hid (w2.heap.size ≤ Bb) := by subst hBb; exact hk5.out.size
        have HL6 : Hid (W6.ownsRow w.heap.size 3 1 (.slice (some ⟨gl, 0, none⟩) many many) many (zc (ns (rng many L)))) := own_sameC HL2.out fun g _ hg => HB6.out.block g (by
          simp only [Value.ownBlock, Option.some.injEq] at hg
          have := HGlw.out
          omega)
        rw [hW6, hBb]
        clear hW6 hBb k0 k1 k2 k3 k4 k5 HK HKb HJ hk5 hr5 hn0
        have hN5a : na + nb ≤ 64 := by omega
        obtain ⟨N5, hN5⟩ : ∃ N5, na + nb = N5 := ⟨_, rfl⟩
        have HS5 : Hid ((Sa ++ Sb).length = N5) := by show _ = _; rw [List.length_append, HNa.out, HNb.out, hN5]
        have HSm : Hid (∀ s ∈ Sa ++ Sb, s < many) := fun s hs => by
          rcases List.mem_append.1 hs with h | h
          · exact hka.2.2 s h
          · exact hkb.2.2 s h
        rw [hN5] at HBx HS6 hN5a ⊢
        have hka1 := hka.1
        have hkb1 := hkb.1
        have p2 : W6.cell? ⟨Bb, 2, none⟩ = some (.slice A5 N5 c5) := (cell_atC HBx.out 2).trans rfl
        have HHla : Hid (joinG (wa, la, Sa) (wb, lb, Sb) = (ws, lm, Sa ++ Sb)) := by show _ = _; unfold joinG; simp only; rw [hws, hlm]
        clear hws hlm hka hkb hfl hN5
        obtain ⟨S, hSd⟩ : ∃ S, Sa ++ Sb = S := ⟨_, rfl⟩
        rw [hSd] at HS5 HSm HS6 HHla
        clear hSd
        go_wp2
        go_loopw [35] (fun p wr => InRel many L S gl w.heap.size W6 p wr) (fun p _ => N5 - (intOf p).toNat)
        case atStart => exact ⟨0, Nat.zero_le _, rfl, by rw [List.take_zero, bump_nil]; exact HL6.out, fun _ _ => rfl, rfl, Below.refl _ _⟩
        case round =>
          rename_i wr0 _
          obtain ⟨i, hi', rfl, hrow, hoth, hsz, hbg⟩ := hrel
          rw [HS5.out] at hi'
          have hS7 : wr.ownsRow w2.heap.size 3 1 (.slice A5 N5 c5) N5 (zc (ns S)) := own_sameC HS6.out fun g hg _ => hoth g (by have := HGlw.out; omega)
          by_cases hlt2 : i < N5
          · have hil : i < S.length := by rw [HS5.out]; exact hlt2
            obtain ⟨b, off5, rfl, hb5, hc5⟩ := (own_rdv hS7).at_ (ns_get S i hil)
            have hx := HSm.out _ (at_mem S i hil)
            have htk := take_snoc S i hil
            have hle := bump_le L (S.take i) 4096 (fun s => by have := HL.out s; omega) (by rw [List.length_take]; omega) (S[i]?.getD 0)
            have HB := Lib.hid hbg; have HOth := Lib.hid hoth; have HSz := Lib.hid hsz
            clear hbg hoth hsz hS7
            generalize S[i]?.getD 0 = x at *
            have hsn := bump_snoc many L (S.take i) x hx
            rw [← htk] at hsn
            have hget : (zc (ns (rng many (bump L (S.take i)))))[x]? = some (.int .i64 ((bump L (S.take i) x : Nat) : Int)) := by
              have := ns_get (rng many (bump L (S.take i))) x (by rw [rng_length]; exact hx)
              rw [rng_at _ _ _ hx] at this
              exact this
            obtain ⟨kc, kf⟩ := own_cell hrow hget
            have hset := own_set (i := x) hrow (.int .i64 ((bump L (S.take i) x + 1 : Nat) : Int))
            rw [← zc_nsetD, ← hsn] at hset
            have HO3 := Lib.hid hset
            have HW3 : Hid ((∀ j, j ≠ gl → (wr.setCell ⟨gl, x, none⟩ (.int .i64 ((bump L (S.take i) x + 1 : Nat) : Int))).heap[j]? = W6.heap[j]?) ∧ (wr.setCell ⟨gl, x, none⟩ (.int .i64 ((bump L (S.take i) x + 1 : Nat) : Int))).heap.size = W6.heap.size ∧ Below gl W6 (wr.setCell ⟨gl, x, none⟩ (.int .i64 ((bump L (S.take i) x + 1 : Nat) : Int)))) :=
              ⟨fun j hj => (Below.heap_setCell _ _ _ _ hj).trans (HOth.out j hj), by simp [World.setCell, HSz.out], HB.out.setCell (p := ⟨gl, x, none⟩) (Nat.le_refl _) _⟩
            clear hset hsn hget htk hrow HB HOth HSz
            generalize bump L (S.take i) x = y at *
            go_wp2
            go_roundw
            case rel => exact ⟨i + 1, by rw [HS5.out]; omega, by go_num, HO3.out, HW3.out.1, HW3.out.2.1, HW3.out.2.2⟩
            case measure => simp [intOf]; omega
          · have e : S.take i = S := List.take_of_length_le (by rw [HS5.out]; omega)
            rw [e] at hrow
            obtain rfl : i = N5 := by omega
            have hgbl : gb ≠ gl := HNe.out
            have hO7 : OwnAt wr base 128 3 gb off n cap ((((wa, la, Sa), Aa, ca) :: ((wb, lb, Sb), Ab, cb) :: zs).flatMap encG) := HO2.out.same ((hoth gb hgbl).trans (HB6.out.block gb hgbw))
            have hzn : n = 2 + zs.length := by have := HYn.out; simp at this; omega
            have hcap : n ≤ cap := hO7.2.2.1
            have hbx7 : wr.heap[Bb]? = some (.cells #[.int .i64 (ws : Int), .int .i64 (lm : Int), .slice A5 i c5] 128 (0, 0)) := (hoth Bb (by have := HGlw.out; have := HBb.out; omega)).trans HBx.out
            have hB7 : Below base w wr := HB2.out.trans ((HB6.out.mono HBw.out).trans (hbg.mono (by have := HGl.out; omega)))
            have HL7 := Lib.hid hrow; have HS7 := Lib.hid hS7
            have HTy := Lib.hid hO7.type
            have HSy7 : Hid (∀ x ∈ zs, SyO wr base (some gl) x) := fun x hx => (HSy2.out x (by simp [hx])).keep fun j hj ⟨cs, hc⟩ => (hoth j (fun e => hj (by rw [e]))).trans (HB6.out.block j (Array.getElem?_eq_some_iff.1 hc).1)
            have HB7 := Lib.hid hB7
            have hd : ∃ off' : Nat, off' = (if cap = 2 then off else off + 2 * 3) ∧ OwnAt wr base 128 3 gb off' zs.length (cap - 2) (zs.flatMap encG) := by
              refine ⟨_, rfl, ?_⟩
              by_cases hc2 : cap = 2
              · rw [if_pos hc2]
                have hz : zs = [] := List.eq_nil_of_length_eq_zero (by omega)
                subst hz
                obtain ⟨_, h2, _, h4, cur, h5, h6, _⟩ := hO7
                exact ⟨rfl, h2, Nat.zero_le _, by omega, cur, h5, by omega, rfl⟩
              · rw [if_neg hc2]
                have e1 : (((wa, la, Sa), Aa, ca) :: ((wb, lb, Sb), Ab, cb) :: zs).flatMap encG = (encG ((wa, la, Sa), Aa, ca) ++ encG ((wb, lb, Sb), Ab, cb)) ++ zs.flatMap encG := by simp
                rw [e1, hzn, show cap = 2 + (cap - 2) by omega] at hO7
                have := OwnAt.drop 2 hO7 rfl
                exact this
            obtain ⟨off', hoff, hO8⟩ := hd
            have HO8 := Lib.hid hO8
            have hgb7 := hO7.lt
            have q0 : wr.cell? ⟨Bb, 0, none⟩ = some (.int .i64 (ws : Int)) := (cell_atC hbx7 0).trans rfl
            have q1 : wr.cell? ⟨Bb, 1, none⟩ = some (.int .i64 (lm : Int)) := (cell_atC hbx7 1).trans rfl
            have q2 : wr.cell? ⟨Bb, 2, none⟩ = some (.slice A5 i c5) := (cell_atC hbx7 2).trans rfl
            have hBb7 := (Array.getElem?_eq_some_iff.1 hbx7).1
            have HKq : Hid (∀ V : World, Below wr.heap.size wr V → V.cell? ⟨Bb, 0, none⟩ = some (.int .i64 (ws : Int)) ∧ V.cell? ⟨Bb, 1, none⟩ = some (.int .i64 (lm : Int)) ∧ V.cell? ⟨Bb, 2, none⟩ = some (.slice A5 i c5)) := fun V h => ⟨(h.cell (p := ⟨Bb, 0, none⟩) hBb7).trans q0, (h.cell (p := ⟨Bb, 1, none⟩) hBb7).trans q1, (h.cell (p := ⟨Bb, 2, none⟩) hBb7).trans q2⟩
            have HBase : Hid (base ≤ wr.heap.size) := Nat.le_trans HBw.out (Nat.le_trans HB6.out.size hbg.size)
            have hgbb := hO7.2.1
            clear hrow hoth hsz hbg hS7 hO7 hbx7 hB7 hO8 e HL6 HS6 HBx HB6 HB2 HSy2 HO2 p2
            rw [show zs.length = n - 2 by omega] at HO8
            have hn2 : 2 ≤ n := hn1
            have HZn : Hid (zs.length = n - 2) := by show _ = _; omega
            have HSl : Hid (encG ((ws, lm, S), A5, c5) = [.int .i64 (ws : Int), .int .i64 (lm : Int), .slice A5 i c5]) := by show encG _ = _; unfold encG; rw [HS5.out]
            have HKr : Hid (∀ V : World, V.heap[Bb]? = wr.heap[Bb]? → V.cell? ⟨Bb, 0, none⟩ = some (.int .i64 (ws : Int)) ∧ V.cell? ⟨Bb, 1, none⟩ = some (.int .i64 (lm : Int)) ∧ V.cell? ⟨Bb, 2, none⟩ = some (.slice A5 i c5)) := fun V h => by
              have key : ∀ j, V.cell? ⟨Bb, j, none⟩ = wr.cell? ⟨Bb, j, none⟩ := fun j => World.cell?_of_block (a := ⟨Bb, j, none⟩) h
              exact ⟨(key _).trans q0, (key _).trans q1, (key _).trans q2⟩
            have hneB : Bb ≠ gb := by have := HBb.out; omega
            have i2n : (2 : Int) ≤ (n : Int) := by omega
            have inc : (n : Int) ≤ (cap : Int) := by omega
            have i2c : (2 : Int) ≤ (cap : Int) := by omega
            clear hzn
            by_cases hc2 : cap = 2
            · rw [if_pos hc2] at hoff
              subst hoff
              obtain rfl : n = 2 := by omega
              subst hc2
              clear i2n inc i2c
              go_wp2_with fail
              go_region_held3 (fun w' => w'.cell? ⟨Bb, 0, none⟩ = some (.int .i64 (ws : Int)) ∧ w'.cell? ⟨Bb, 1, none⟩ = some (.int .i64 (lm : Int)) ∧ w'.cell? ⟨Bb, 2, none⟩ = some (.slice A5 i c5))
                ((first | exact hk8.out | (refine HKq.out _ ?_; first | exact (Below.refl _ _).drew | exact ((Below.refl _ _).drew).alloc (Nat.le_refl _) _ | exact ((Below.refl _ _).alloc (Nat.le_refl _) _).drew)))
                (first | (refine step_append_at _ rfl _ _ 76 rfl base 128 j0 (.agg #[.int .i64 0, .int .i64 0, .slice none 0 0]) 3 40 Tryz.underlying76 hj hj0 hj1 hj2 rfl (by decide) gb off' 0 0 (zs.flatMap encG) rfl (HO8.out.same (Below.heap_alloc wr _ _ hgb7)) ⟨wr.heap.size, 0, none⟩ 1 1 [.int .i64 (ws : Int), .int .i64 (lm : Int), .slice A5 i c5] rfl rfl (news_rowC wr [.int .i64 (ws : Int), .int .i64 (lm : Int), .slice A5 i c5] 128) (by rw [← HSl.out]; exact encG_one _) (by unfold maxLen; omega) (by omega) (by have := HBase.out; simp; omega) ?_; intro g8 off8 cap8 w8 hown8 hgrow8 hloc8; have hk8 : Hid (w8.cell? ⟨Bb, 0, none⟩ = some (.int .i64 (ws : Int)) ∧ w8.cell? ⟨Bb, 1, none⟩ = some (.int .i64 (lm : Int)) ∧ w8.cell? ⟨Bb, 2, none⟩ = some (.slice A5 i c5)) := HKr.out w8 ((hgrow8.block Bb (by simp; omega) (fun e => hneB (by simpa using e))).trans (Below.heap_alloc wr _ _ hBb7)); have HO9 := Lib.hid hown8; have HG9 := Lib.hid hgrow8; clear hown8 hgrow8))
              have HF9 := Lib.hid (deep_next xs 2 many T w wr (wr.alloc (.cells #[.int .i64 (ws : Int), .int .i64 (lm : Int), .slice A5 i c5] 128)).drew w8 base gl gb off8 cap8 g8 wa la wb lb ws lm Sa Sb S A5 c5 i 0 w2.heap.size zs L HS5.out hN5a HZn.out (by omega) (by omega) HL.out HHla.out HGs.out HRun.out HOk2.out HO9.out (one_below wr _).drew HG9.out HTy.out HL7.out HSy7.out HS7.out HGlw.out HBw.out HB7.out HBase.out hgbb)
              clear HO9 HG9 hk8
              go_wp2
              go_roundw
              case rel => exact HF9.out
              case measure => simp [lenV]; try omega
            · rw [if_neg hc2] at hoff
              subst hoff
              have hif : (cap = 2) = False := eq_false hc2
              go_wp2_with fail
              go_region_held3 (fun w' => w'.cell? ⟨Bb, 0, none⟩ = some (.int .i64 (ws : Int)) ∧ w'.cell? ⟨Bb, 1, none⟩ = some (.int .i64 (lm : Int)) ∧ w'.cell? ⟨Bb, 2, none⟩ = some (.slice A5 i c5))
                ((first | exact hk8.out | (refine HKq.out _ ?_; first | exact (Below.refl _ _).drew | exact ((Below.refl _ _).drew).alloc (Nat.le_refl _) _ | exact ((Below.refl _ _).alloc (Nat.le_refl _) _).drew)))
                (first | (refine step_append_at _ rfl _ _ 76 rfl base 128 j0 (.agg #[.int .i64 0, .int .i64 0, .slice none 0 0]) 3 40 Tryz.underlying76 hj hj0 hj1 hj2 rfl (by decide) gb (off + 2 * 3) (n - 2) (cap - 2) (zs.flatMap encG) rfl (HO8.out.same (Below.heap_alloc wr _ _ hgb7)) ⟨wr.heap.size, 0, none⟩ 1 1 [.int .i64 (ws : Int), .int .i64 (lm : Int), .slice A5 i c5] rfl rfl (news_rowC wr [.int .i64 (ws : Int), .int .i64 (lm : Int), .slice A5 i c5] 128) (by rw [← HSl.out]; exact encG_one _) (by unfold maxLen; omega) (by omega) (by have := HBase.out; simp; omega) ?_; intro g8 off8 cap8 w8 hown8 hgrow8 hloc8; have hk8 : Hid (w8.cell? ⟨Bb, 0, none⟩ = some (.int .i64 (ws : Int)) ∧ w8.cell? ⟨Bb, 1, none⟩ = some (.int .i64 (lm : Int)) ∧ w8.cell? ⟨Bb, 2, none⟩ = some (.slice A5 i c5)) := HKr.out w8 ((hgrow8.block Bb (by simp; omega) (fun e => hneB (by simpa using e))).trans (Below.heap_alloc wr _ _ hBb7)); have HO9 := Lib.hid hown8; have HG9 := Lib.hid hgrow8; clear hown8 hgrow8))
              have HF9 := Lib.hid (deep_next xs n many T w wr (wr.alloc (.cells #[.int .i64 (ws : Int), .int .i64 (lm : Int), .slice A5 i c5] 128)).drew w8 base gl gb off8 cap8 g8 wa la wb lb ws lm Sa Sb S A5 c5 i (n - 2) w2.heap.size zs L HS5.out hN5a HZn.out (by omega) q64 HL.out HHla.out HGs.out HRun.out HOk2.out HO9.out (one_below wr _).drew HG9.out HTy.out HL7.out HSy7.out HS7.out HGlw.out HBw.out HB7.out HBase.out hgbb)
              clear HO9 HG9 hk8
              go_wp2
              go_roundw
              case rel => exact HF9.out
              case measure => simp [lenV]; try omega
      · obtain ⟨W6, hW6⟩ : ∃ W6, ((w5.setCell ⟨w2.heap.size, 0, none⟩ (.int .i64 (ws : Int))).setCell ⟨w2.heap.size, 1, none⟩ (.int .i64 (lm : Int))).setCell ⟨w2.heap.size, 2, none⟩ (.slice A5 (na + nb) c5) = W6 := ⟨_, rfl⟩
        obtain ⟨Bb, hBb⟩ : ∃ Bb, w2.heap.size = Bb := ⟨_, rfl⟩
        have e0 : (w5.setCell ⟨w2.heap.size, 0, none⟩ (.int .i64 (ws : Int))).heap[w2.heap.size]? = some (.cells #[.int .i64 (ws : Int), .int .i64 0, .slice none 0 0] 128 (0, 0)) := by rw [heap_set_same _ _ _ _ _ _ Hb7.out]; rfl
        have e1 : ((w5.setCell ⟨w2.heap.size, 0, none⟩ (.int .i64 (ws : Int))).setCell ⟨w2.heap.size, 1, none⟩ (.int .i64 (lm : Int))).heap[w2.heap.size]? = some (.cells #[.int .i64 (ws : Int), .int .i64 (lm : Int), .slice none 0 0] 128 (0, 0)) := by rw [heap_set_same _ _ _ _ _ _ e0]; rfl
        have HBx : Hid (W6.heap[Bb]? = some (.cells #[.int .i64 (ws : Int), .int .i64 (lm : Int), .slice A5 (na + nb) c5] 128 (0, 0))) := by subst hW6; subst hBb; show _ = _; rw [heap_set_same _ _ _ _ _ _ e1]; rfl
        have HB6 : Hid (Below w2.heap.size w2 W6) := by subst hW6; exact ((hk5.out.setCell (p := ⟨w2.heap.size, 0, none⟩) (Nat.le_refl _) _).setCell (p := ⟨w2.heap.size, 1, none⟩) (Nat.le_refl _) _).setCell (p := ⟨w2.heap.size, 2, none⟩) (Nat.le_refl _) _
        have HS6 : Hid (W6.ownsRow w2.heap.size 3 1 (.slice A5 (na + nb) c5) (na + nb) (zc (ns (Sa ++ Sb)))) := by
          subst hW6
          refine own_sameC hr5 fun g hg hv => ?_
          have hne : g ≠ w2.heap.size := fun e => own_blockT hr5.out Hb7.out (by decide) (by rw [hv, e])
          rw [Below.heap_setCell _ _ _ _ hne, Below.heap_setCell _ _ _ _ hne, Below.heap_setCell _ _ _ _ hne]
        have HBb : Hid (w2.heap.size ≤ Bb) := by subst hBb; exact Nat.le_refl _
        clear e0 e1 d0 d1 d2 f0 f1 f2 Hb7
        have HL6 : Hid (W6.ownsRow w.heap.size 3 1 (.slice (some ⟨gl, 0, none⟩) many many) many (zc (ns (rng many L)))) := own_sameC HL2.out fun g _ hg => HB6.out.block g (by
          simp only [Value.ownBlock, Option.some.injEq] at hg
          have := HGlw.out
          omega)
        rw [hW6, hBb]
        clear hW6 hBb k0 k1 k2 k3 k4 k5 HK HKb HJ hk5 hr5 hn0
        have hN5a : na + nb ≤ 64 := by omega
        obtain ⟨N5, hN5⟩ : ∃ N5, na + nb = N5 := ⟨_, rfl⟩
        have HS5 : Hid ((Sa ++ Sb).length = N5) := by show _ = _; rw [List.length_append, HNa.out, HNb.out, hN5]
        have HSm : Hid (∀ s ∈ Sa ++ Sb, s < many) := fun s hs => by
          rcases List.mem_append.1 hs with h | h
          · exact hka.2.2 s h
          · exact hkb.2.2 s h
        rw [hN5] at HBx HS6 hN5a ⊢
        have hka1 := hka.1
        have hkb1 := hkb.1
        have p2 : W6.cell? ⟨Bb, 2, none⟩ = some (.slice A5 N5 c5) := (cell_atC HBx.out 2).trans rfl
        have HHla : Hid (joinG (wa, la, Sa) (wb, lb, Sb) = (ws, lm, Sa ++ Sb)) := by show _ = _; unfold joinG; simp only; rw [hws, hlm]
        clear hws hlm hka hkb hfl hN5
        obtain ⟨S, hSd⟩ : ∃ S, Sa ++ Sb = S := ⟨_, rfl⟩
        rw [hSd] at HS5 HSm HS6 HHla
        clear hSd
        go_wp2
        go_loopw [35] (fun p wr => InRel many L S gl w.heap.size W6 p wr) (fun p _ => N5 - (intOf p).toNat)
        case atStart => exact ⟨0, Nat.zero_le _, rfl, by rw [List.take_zero, bump_nil]; exact HL6.out, fun _ _ => rfl, rfl, Below.refl _ _⟩
        case round =>
          rename_i wr0 _
          obtain ⟨i, hi', rfl, hrow, hoth, hsz, hbg⟩ := hrel
          rw [HS5.out] at hi'
          have hS7 : wr.ownsRow w2.heap.size 3 1 (.slice A5 N5 c5) N5 (zc (ns S)) := own_sameC HS6.out fun g hg _ => hoth g (by have := HGlw.out; omega)
          by_cases hlt2 : i < N5
          · have hil : i < S.length := by rw [HS5.out]; exact hlt2
            obtain ⟨b, off5, rfl, hb5, hc5⟩ := (own_rdv hS7).at_ (ns_get S i hil)
            have hx := HSm.out _ (at_mem S i hil)
            have htk := take_snoc S i hil
            have hle := bump_le L (S.take i) 4096 (fun s => by have := HL.out s; omega) (by rw [List.length_take]; omega) (S[i]?.getD 0)
            have HB := Lib.hid hbg; have HOth := Lib.hid hoth; have HSz := Lib.hid hsz
            clear hbg hoth hsz hS7
            generalize S[i]?.getD 0 = x at *
            have hsn := bump_snoc many L (S.take i) x hx
            rw [← htk] at hsn
            have hget : (zc (ns (rng many (bump L (S.take i)))))[x]? = some (.int .i64 ((bump L (S.take i) x : Nat) : Int)) := by
              have := ns_get (rng many (bump L (S.take i))) x (by rw [rng_length]; exact hx)
              rw [rng_at _ _ _ hx] at this
              exact this
            obtain ⟨kc, kf⟩ := own_cell hrow hget
            have hset := own_set (i := x) hrow (.int .i64 ((bump L (S.take i) x + 1 : Nat) : Int))
            rw [← zc_nsetD, ← hsn] at hset
            have HO3 := Lib.hid hset
            have HW3 : Hid ((∀ j, j ≠ gl → (wr.setCell ⟨gl, x, none⟩ (.int .i64 ((bump L (S.take i) x + 1 : Nat) : Int))).heap[j]? = W6.heap[j]?) ∧ (wr.setCell ⟨gl, x, none⟩ (.int .i64 ((bump L (S.take i) x + 1 : Nat) : Int))).heap.size = W6.heap.size ∧ Below gl W6 (wr.setCell ⟨gl, x, none⟩ (.int .i64 ((bump L (S.take i) x + 1 : Nat) : Int)))) :=
              ⟨fun j hj => (Below.heap_setCell _ _ _ _ hj).trans (HOth.out j hj), by simp [World.setCell, HSz.out], HB.out.setCell (p := ⟨gl, x, none⟩) (Nat.le_refl _) _⟩
            clear hset hsn hget htk hrow HB HOth HSz
            generalize bump L (S.take i) x = y at *
            go_wp2
            go_roundw
            case rel => exact ⟨i + 1, by rw [HS5.out]; omega, by go_num, HO3.out, HW3.out.1, HW3.out.2.1, HW3.out.2.2⟩
            case measure => simp [intOf]; omega
          · have e : S.take i = S := List.take_of_length_le (by rw [HS5.out]; omega)
            rw [e] at hrow
            obtain rfl : i = N5 := by omega
            have hgbl : gb ≠ gl := HNe.out
            have hO7 : OwnAt wr base 128 3 gb off n cap ((((wa, la, Sa), Aa, ca) :: ((wb, lb, Sb), Ab, cb) :: zs).flatMap encG) := HO2.out.same ((hoth gb hgbl).trans (HB6.out.block gb hgbw))
            have hzn : n = 2 + zs.length := by have := HYn.out; simp at this; omega
            have hcap : n ≤ cap := hO7.2.2.1
            have hbx7 : wr.heap[Bb]? = some (.cells #[.int .i64 (ws : Int), .int .i64 (lm : Int), .slice A5 i c5] 128 (0, 0)) := (hoth Bb (by have := HGlw.out; have := HBb.out; omega)).trans HBx.out
            have hB7 : Below base w wr := HB2.out.trans ((HB6.out.mono HBw.out).trans (hbg.mono (by have := HGl.out; omega)))
            have HL7 := Lib.hid hrow; have HS7 := Lib.hid hS7
            have HTy := Lib.hid hO7.type
            have HSy7 : Hid (∀ x ∈ zs, SyO wr base (some gl) x) := fun x hx => (HSy2.out x (by simp [hx])).keep fun j hj ⟨cs, hc⟩ => (hoth j (fun e => hj (by rw [e]))).trans (HB6.out.block j (Array.getElem?_eq_some_iff.1 hc).1)
            have HB7 := Lib.hid hB7
            have hd : ∃ off' : Nat, off' = (if cap = 2 then off else off + 2 * 3) ∧ OwnAt wr base 128 3 gb off' zs.length (cap - 2) (zs.flatMap encG) := by
              refine ⟨_, rfl, ?_⟩
              by_cases hc2 : cap = 2
              · rw [if_pos hc2]
                have hz : zs = [] := List.eq_nil_of_length_eq_zero (by omega)
                subst hz
                obtain ⟨_, h2, _, h4, cur, h5, h6, _⟩ := hO7
                exact ⟨rfl, h2, Nat.zero_le _, by omega, cur, h5, by omega, rfl⟩
              · rw [if_neg hc2]
                have e1 : (((wa, la, Sa), Aa, ca) :: ((wb, lb, Sb), Ab, cb) :: zs).flatMap encG = (encG ((wa, la, Sa), Aa, ca) ++ encG ((wb, lb, Sb), Ab, cb)) ++ zs.flatMap encG := by simp
                rw [e1, hzn, show cap = 2 + (cap - 2) by omega] at hO7
                have := OwnAt.drop 2 hO7 rfl
                exact this
            obtain ⟨off', hoff, hO8⟩ := hd
            have HO8 := Lib.hid hO8
            have hgb7 := hO7.lt
            have q0 : wr.cell? ⟨Bb, 0, none⟩ = some (.int .i64 (ws : Int)) := (cell_atC hbx7 0).trans rfl
            have q1 : wr.cell? ⟨Bb, 1, none⟩ = some (.int .i64 (lm : Int)) := (cell_atC hbx7 1).trans rfl
            have q2 : wr.cell? ⟨Bb, 2, none⟩ = some (.slice A5 i c5) := (cell_atC hbx7 2).trans rfl
            have hBb7 := (Array.getElem?_eq_some_iff.1 hbx7).1
            have HKq : Hid (∀ V : World, Below wr.heap.size wr V → V.cell? ⟨Bb, 0, none⟩ = some (.int .i64 (ws : Int)) ∧ V.cell? ⟨Bb, 1, none⟩ = some (.int .i64 (lm : Int)) ∧ V.cell? ⟨Bb, 2, none⟩ = some (.slice A5 i c5)) := fun V h => ⟨(h.cell (p := ⟨Bb, 0, none⟩) hBb7).trans q0, (h.cell (p := ⟨Bb, 1, none⟩) hBb7).trans q1, (h.cell (p := ⟨Bb, 2, none⟩) hBb7).trans q2⟩
            have HBase : Hid (base ≤ wr.heap.size) := Nat.le_trans HBw.out (Nat.le_trans HB6.out.size hbg.size)
            have hgbb := hO7.2.1
            clear hrow hoth hsz hbg hS7 hO7 hbx7 hB7 hO8 e HL6 HS6 HBx HB6 HB2 HSy2 HO2 p2
            rw [show zs.length = n - 2 by omega] at HO8
            have hn2 : 2 ≤ n := hn1
            have HZn : Hid (zs.length = n - 2) := by show _ = _; omega
            have HSl : Hid (encG ((ws, lm, S), A5, c5) = [.int .i64 (ws : Int), .int .i64 (lm : Int), .slice A5 i c5]) := by show encG _ = _; unfold encG; rw [HS5.out]
            have HKr : Hid (∀ V : World, V.heap[Bb]? = wr.heap[Bb]? → V.cell? ⟨Bb, 0, none⟩ = some (.int .i64 (ws : Int)) ∧ V.cell? ⟨Bb, 1, none⟩ = some (.int .i64 (lm : Int)) ∧ V.cell? ⟨Bb, 2, none⟩ = some (.slice A5 i c5)) := fun V h => by
              have key : ∀ j, V.cell? ⟨Bb, j, none⟩ = wr.cell? ⟨Bb, j, none⟩ := fun j => World.cell?_of_block (a := ⟨Bb, j, none⟩) h
              exact ⟨(key _).trans q0, (key _).trans q1, (key _).trans q2⟩
            have hneB : Bb ≠ gb := by have := HBb.out; omega
            have i2n : (2 : Int) ≤ (n : Int) := by omega
            have inc : (n : Int) ≤ (cap : Int) := by omega
            have i2c : (2 : Int) ≤ (cap : Int) := by omega
            clear hzn
            by_cases hc2 : cap = 2
            · rw [if_pos hc2] at hoff
              subst hoff
              obtain rfl : n = 2 := by omega
              subst hc2
              clear i2n inc i2c
              go_wp2_with fail
              go_region_held3 (fun w' => w'.cell? ⟨Bb, 0, none⟩ = some (.int .i64 (ws : Int)) ∧ w'.cell? ⟨Bb, 1, none⟩ = some (.int .i64 (lm : Int)) ∧ w'.cell? ⟨Bb, 2, none⟩ = some (.slice A5 i c5))
                ((first | exact hk8.out | (refine HKq.out _ ?_; first | exact (Below.refl _ _).drew | exact ((Below.refl _ _).drew).alloc (Nat.le_refl _) _ | exact ((Below.refl _ _).alloc (Nat.le_refl _) _).drew)))
                (first | (refine step_append_at _ rfl _ _ 76 rfl base 128 j0 (.agg #[.int .i64 0, .int .i64 0, .slice none 0 0]) 3 40 Tryz.underlying76 hj hj0 hj1 hj2 rfl (by decide) gb off' 0 0 (zs.flatMap encG) rfl (HO8.out.same (Below.heap_alloc wr _ _ hgb7)) ⟨wr.heap.size, 0, none⟩ 1 1 [.int .i64 (ws : Int), .int .i64 (lm : Int), .slice A5 i c5] rfl rfl (news_rowC wr [.int .i64 (ws : Int), .int .i64 (lm : Int), .slice A5 i c5] 128) (by rw [← HSl.out]; exact encG_one _) (by unfold maxLen; omega) (by omega) (by have := HBase.out; simp; omega) ?_; intro g8 off8 cap8 w8 hown8 hgrow8 hloc8; have hk8 : Hid (w8.cell? ⟨Bb, 0, none⟩ = some (.int .i64 (ws : Int)) ∧ w8.cell? ⟨Bb, 1, none⟩ = some (.int .i64 (lm : Int)) ∧ w8.cell? ⟨Bb, 2, none⟩ = some (.slice A5 i c5)) := HKr.out w8 ((hgrow8.block Bb (by simp; omega) (fun e => hneB (by simpa using e))).trans (Below.heap_alloc wr _ _ hBb7)); have HO9 := Lib.hid hown8; have HG9 := Lib.hid hgrow8; clear hown8 hgrow8))
              have HF9 := Lib.hid (deep_next xs 2 many T w wr (wr.alloc (.cells #[.int .i64 (ws : Int), .int .i64 (lm : Int), .slice A5 i c5] 128)).drew w8 base gl gb off8 cap8 g8 wa la wb lb ws lm Sa Sb S A5 c5 i 0 w2.heap.size zs L HS5.out hN5a HZn.out (by omega) (by omega) HL.out HHla.out HGs.out HRun.out HOk2.out HO9.out (one_below wr _).drew HG9.out HTy.out HL7.out HSy7.out HS7.out HGlw.out HBw.out HB7.out HBase.out hgbb)
              clear HO9 HG9 hk8
              go_wp2
              go_roundw
              case rel => exact HF9.out
              case measure => simp [lenV]; try omega
            · rw [if_neg hc2] at hoff
              subst hoff
              have hif : (cap = 2) = False := eq_false hc2
              go_wp2_with fail
              go_region_held3 (fun w' => w'.cell? ⟨Bb, 0, none⟩ = some (.int .i64 (ws : Int)) ∧ w'.cell? ⟨Bb, 1, none⟩ = some (.int .i64 (lm : Int)) ∧ w'.cell? ⟨Bb, 2, none⟩ = some (.slice A5 i c5))
                ((first | exact hk8.out | (refine HKq.out _ ?_; first | exact (Below.refl _ _).drew | exact ((Below.refl _ _).drew).alloc (Nat.le_refl _) _ | exact ((Below.refl _ _).alloc (Nat.le_refl _) _).drew)))
                (first | (refine step_append_at _ rfl _ _ 76 rfl base 128 j0 (.agg #[.int .i64 0, .int .i64 0, .slice none 0 0]) 3 40 Tryz.underlying76 hj hj0 hj1 hj2 rfl (by decide) gb (off + 2 * 3) (n - 2) (cap - 2) (zs.flatMap encG) rfl (HO8.out.same (Below.heap_alloc wr _ _ hgb7)) ⟨wr.heap.size, 0, none⟩ 1 1 [.int .i64 (ws : Int), .int .i64 (lm : Int), .slice A5 i c5] rfl rfl (news_rowC wr [.int .i64 (ws : Int), .int .i64 (lm : Int), .slice A5 i c5] 128) (by rw [← HSl.out]; exact encG_one _) (by unfold maxLen; omega) (by omega) (by have := HBase.out; simp; omega) ?_; intro g8 off8 cap8 w8 hown8 hgrow8 hloc8; have hk8 : Hid (w8.cell? ⟨Bb, 0, none⟩ = some (.int .i64 (ws : Int)) ∧ w8.cell? ⟨Bb, 1, none⟩ = some (.int .i64 (lm : Int)) ∧ w8.cell? ⟨Bb, 2, none⟩ = some (.slice A5 i c5)) := HKr.out w8 ((hgrow8.block Bb (by simp; omega) (fun e => hneB (by simpa using e))).trans (Below.heap_alloc wr _ _ hBb7)); have HO9 := Lib.hid hown8; have HG9 := Lib.hid hgrow8; clear hown8 hgrow8))
              have HF9 := Lib.hid (deep_next xs n many T w wr (wr.alloc (.cells #[.int .i64 (ws : Int), .int .i64 (lm : Int), .slice A5 i c5] 128)).drew w8 base gl gb off8 cap8 g8 wa la wb lb ws lm Sa Sb S A5 c5 i (n - 2) w2.heap.size zs L HS5.out hN5a HZn.out (by omega) q64 HL.out HHla.out HGs.out HRun.out HOk2.out HO9.out (one_below wr _).drew HG9.out HTy.out HL7.out HSy7.out HS7.out HGlw.out HBw.out HB7.out HBase.out hgbb)
              clear HO9 HG9 hk8
              go_wp2
              go_roundw
              case rel => exact HF9.out
              case measure => simp [lenV]; try omega
    · obtain rfl : n = 1 := by omega
      have hz : L = T := by rw [← hrun]; rfl
      subst hz
      have HL7 := Lib.hid hl; have HB7 := Lib.hid hbel
      clear hrow hl hsy hok hL hbel hrun
      go_wp2
      go_ret
      exact ⟨gl, rfl, HL7.out, HB7.out⟩
end

section
set_option maxRecDepth 100000
set_option linter.unusedVariables false
open Go.RowKit Go.Shelf Go.Sort

set_option maxHeartbeats 2000000 in
theorem deepen_nil (A : Option Addr) (c many : Nat) (hm : many ≤ 64) (base : Nat) (w : World) (hbase : base ≤ w.heap.size) :
    Calls Tryz.prog 44 #[.slice A 0 c, .int .i64 (many : Int)] w fun e w' => ∃ g, e = .returned (.slice (some ⟨g, 0, none⟩) many many) ∧ w'.ownsRow w.heap.size 3 1 (.slice (some ⟨g, 0, none⟩) many many) many (zc (ns (rng many (fun _ => 0)))) ∧ Below base w w' := by
  obtain ⟨i0, hi, hz0, hz1, hz2⟩ := info_parts info3i
  go_enter Tryz.func44, Tryz.ntmps44
  go_wp2_with (at_make; refine wpList_make_full _ rfl _ _ 22 rfl w.heap.size 3 i0 (.int .i64 0) 1 Tryz.underlying22 hi hz0 hz1 _ _ _ _ many rfl rfl rfl rfl (by rw [hz2]; omega) (by unfold maxLen; omega) (Nat.le_refl _) ?_; intro w3 hown1 hgrow1; rw [made_rng] at hown1; have HO := Lib.hid hown1; have HG : Hid (Below base w w3) := Lib.hid ((Below.refl _ w).grown hgrow1 hbase (fun k hk => by cases hk)); clear hown1 hgrow1)
  go_wp2
  refine wp_loop_rounds 1 ?_
  rw [rounds_succ]
  go_wp2
  go_ret
  exact ⟨_, rfl, HO.out, HG.out⟩
set_option maxHeartbeats 2000000 in
theorem deepen_one (wt least : Nat) (A : Option Addr) (k c : Nat) (many : Nat) (hm : many ≤ 64) (hl : least < many) (gb cap base : Nat) (w : World) (hgb : gb < w.heap.size) (hbase : base ≤ w.heap.size) (h1 : w.cell? ⟨gb, 0 + 1, none⟩ = some (.int .i64 (least : Int))) :
    Calls Tryz.prog 44 #[.slice (some ⟨gb, 0, none⟩) 1 cap, .int .i64 (many : Int)] w fun e w' => ∃ g, e = .returned (.slice (some ⟨g, 0, none⟩) many many) ∧ w'.ownsRow w.heap.size 3 1 (.slice (some ⟨g, 0, none⟩) many many) many (zc (ns (rng many (fun s => if s = least then 1 else 0)))) ∧ Below base w w' := by
  obtain ⟨i0, hi, hz0, hz1, hz2⟩ := info_parts info3i
  go_enter Tryz.func44, Tryz.ntmps44
  go_wp2_with (at_make; refine wpList_make_full _ rfl _ _ 22 rfl w.heap.size 3 i0 (.int .i64 0) 1 Tryz.underlying22 hi hz0 hz1 _ _ _ _ many rfl rfl rfl rfl (by rw [hz2]; omega) (by unfold maxLen; omega) (Nat.le_refl _) ?_; intro w3 hown1 hgrow1; rw [made_rng] at hown1; have HO := Lib.hid hown1; have HG : Hid (Below base w w3) := Lib.hid ((Below.refl _ w).grown hgrow1 hbase (fun k hk => by cases hk)); have g1 : w3.cell? ⟨gb, 0 + 1, none⟩ = some (.int .i64 (least : Int)) := (World.cell?_of_block (a := ⟨gb, 0 + 1, none⟩) (hgrow1.block gb hgb (by simp))).trans h1; have g2 : w3.cell? ⟨gb, 1, none⟩ = some (.int .i64 (least : Int)) := g1; obtain ⟨kc, kf⟩ := own_cell HO.out (ns_get (rng many (fun _ => 0)) least (by rw [rng_length]; exact hl)); clear hown1 hgrow1)
  have hset := own_set (i := least) HO.out (.int .i64 ((1 : Nat) : Int))
  rw [← zc_nsetD, ← rng_set many (fun _ => 0) (fun s => if s = least then 1 else 0) least 1 hl (if_pos rfl) (fun s hs => if_neg hs)] at hset
  have HO3 := Lib.hid hset
  have HB3 : Hid (Below base w (w3.setCell ⟨w.heap.size, least, none⟩ (.int .i64 ((1 : Nat) : Int)))) := HG.out.setCell (p := ⟨w.heap.size, least, none⟩) hbase _
  clear hset h1 g1
  go_wp2
  refine wp_loop_rounds 1 ?_
  rw [rounds_succ]
  go_wp2
  go_ret
  exact ⟨_, rfl, HO3.out, HB3.out⟩
theorem deepen_ok (os : List Nat) (n : Nat) (hn : os.length = n) (h64 : n ≤ 64) (hb : ∀ x ∈ os, x ≤ 1048576) (base : Nat) (v : Value) (w : World) (hg : GRow w base v (groups 0 os)) (hbase : base ≤ w.heap.size) :
    Calls Tryz.prog 44 #[v, .int .i64 (n : Int)] w fun e w' => ∃ g, e = .returned (.slice (some ⟨g, 0, none⟩) n n) ∧ w'.ownsRow w.heap.size 3 1 (.slice (some ⟨g, 0, none⟩) n n) n (zc (ns (hl os))) ∧ Below base w w' := by
  subst hn
  have hok := groups_ok os h64 hb
  have hgl := groups_len os 0
  have hlen : (groups 0 os).length = stand os := rfl
  rw [← rng_lens]
  rcases (show (groups 0 os).length = 0 ∨ (groups 0 os).length = 1 ∨ 2 ≤ (groups 0 os).length by omega) with h | h | h
  · have h0 : groups 0 os = [] := List.eq_nil_of_length_eq_zero h
    have hT : lens os = fun _ => 0 := by unfold lens; rw [h0]; rfl
    rw [hT]
    obtain ⟨xs, hxs, hrow, _⟩ := hg
    rw [h] at hrow
    rcases hrow.2 with ⟨rfl, _⟩ | ⟨g, cap, cur, rfl, hb', hgg, _⟩
    · exact deepen_nil _ _ _ h64 base w hbase
    · exact deepen_nil _ _ _ h64 base w hbase
  · obtain ⟨g, hg1⟩ := List.length_eq_one_iff.1 h
    rw [lens_one os g hg1]
    obtain ⟨xs, hxs, hrow, _⟩ := hg
    rw [hg1] at hxs hrow hok
    have hgm := (hok.2.1 g (by simp)).1
    obtain ⟨x, rfl⟩ : ∃ x, xs = [x] := List.length_eq_one_iff.1 (by have := congrArg List.length hxs; simpa using this)
    simp only [List.map_cons, List.map_nil, List.cons.injEq, and_true] at hxs
    obtain ⟨gb, cap, rfl, _, hgb2⟩ := hrow.form (by simp)
    refine deepen_one g.1 g.2.1 none 0 0 _ h64 hgm gb cap base w hgb2 hbase ?_
    have := ((OwnAt.of_row hrow).cell (j := 1) (u := .int .i64 (g.2.1 : Int)) (by subst hxs; simp [encG])).1
    exact this
  · exact deepen_two (groups 0 os) _ h64 hok (lens os) h (by rw [lens_many os (by rw [← hlen]; omega)]; rfl) (Nat.le_trans hgl h64) base v w hg hbase
end

section
set_option maxRecDepth 100000
set_option linter.unusedVariables false
open Go.RowKit Go.Shelf

set_option maxHeartbeats 400000 in
theorem oftenOne (x : Int) (w : World) : Calls Tryz.prog 85 #[.int .i64 x] w fun e w' => e = .returned (.int .i64 (rg 1048576 x)) ∧ Below w.heap.size w w' := by
  have HR := Lib.hid (range2 0 (decide (0 ≤ x)) (decide (x ≤ 1048576)) _ (rg_eq 1048576 x))
  generalize rg 1048576 x = r at *
  go_enter Tryz.func85, Tryz.ntmps85
  go_wp2_with fail
  refine (HR.out _ _ rfl).mono ?_
  rintro e w1 ⟨rfl, B1⟩
  go_wp2
  go_ret
  exact ⟨rfl, B1⟩
theorem entersOften1 : ∀ args w, (callFunc 85 args).run Tryz.prog w = .ok (.enter 85 args) w := enters_of Tryz.func85 (by kernel_rfl) rfl
/-- What checkOften answers. -/
def ofE (xs : List Int) : Int := eachE (rg 1048576) xs
set_option maxHeartbeats 400000 in
theorem often_any (xs : List Int) (n : Nat) (hn : xs.length = n) (hn2 : n ≤ 9223372036854775807) (A : Option Addr) (c : Nat) (w : World) (h : RdV w w.heap.size A (zc xs)) :
    Calls Tryz.prog 43 #[.slice A n c] w fun e w' => e = .returned (.int .i64 (ofE xs)) ∧ Below w.heap.size w w' := by
  unfold ofE
  have HC := Lib.hid (each_int 85 #[] (rg 1048576) xs n hn hn2 A c w h entersOften1 (fun x V _ => oftenOne x V))
  generalize eachE (rg 1048576) xs = r at *
  clear hn h
  go_enter Tryz.func43, Tryz.ntmps43
  go_wp2_with fail
  refine HC.out.mono ?_
  rintro e w1 ⟨rfl, B1⟩
  go_wp2
  go_ret
  exact ⟨rfl, B1⟩
theorem ofE_zero (xs : List Int) (h : ofE xs = 0) : ∃ l : List Nat, xs = ns l ∧ ∀ x ∈ l, x ≤ 1048576 := by
  unfold ofE at h
  rw [eachE_zero] at h
  refine ⟨xs.map Int.toNat, ?_, ?_⟩
  · unfold ns
    rw [List.map_map]
    conv => lhs; rw [← List.map_id xs]
    refine List.map_congr_left fun x hx => ?_
    have := (rg_zero 1048576 x).1 (h x hx)
    simp only [id, Function.comp]
    omega
  · intro y hy
    obtain ⟨x, hx, rfl⟩ := List.mem_map.1 hy
    have := (rg_zero 1048576 x).1 (h x hx)
    omega
theorem ofE_ok (l : List Nat) (h : ∀ x ∈ l, x ≤ 1048576) : ofE (ns l) = 0 := by
  unfold ofE
  rw [eachE_zero]
  intro x hx
  obtain ⟨y, hy, rfl⟩ := List.mem_map.1 hx
  rw [rg_zero]
  have := h y hy
  omega
theorem ofE_or (xs : List Int) : ofE xs = 0 ∨ ofE xs = 3 := by
  unfold ofE
  induction xs with
  | nil => left; rfl
  | cons x t ih =>
    unfold eachE
    rcases rg_or 1048576 x with h | h
    · rw [if_pos h]; exact ih
    · rw [if_neg (by omega)]; exact .inr h

/-- Is there a sign that stands and has no bits? -/
def stE : List Nat → List Nat → Int
  | x :: a, y :: b => if x ≠ 0 ∧ y = 0 then 4 else stE a b
  | _, _ => 0
theorem stE_drop : ∀ (os ls : List Nat) (i : Nat), i < os.length → i < ls.length → stE (os.drop i) (ls.drop i) = if oAt os i ≠ 0 ∧ oAt ls i = 0 then 4 else stE (os.drop (i + 1)) (ls.drop (i + 1))
  | [], _, i, h, _ => by simp at h
  | _ :: _, [], i, _, h => by simp at h
  | x :: a, y :: b, 0, _, _ => by simp [stE, oAt]
  | x :: a, y :: b, i + 1, h1, h2 => by
    exact stE_drop a b i (by simpa using h1) (by simpa using h2)
theorem dot_take (os ls : List Nat) (i : Nat) (h1 : i < os.length) (h2 : i < ls.length) : dot (os.take (i + 1)) (ls.take (i + 1)) = dot (os.take i) (ls.take i) + oAt os i * oAt ls i := by
  rw [take_snoc os i h1, take_snoc ls i h2, dot_snoc _ _ _ _ (by rw [List.length_take, List.length_take]; omega)]; rfl
theorem dot_bd : ∀ (os ls : List Nat), (∀ x ∈ os, x ≤ 1048576) → (∀ y ∈ ls, y ≤ 24) → dot os ls ≤ os.length * 25165824
  | [], ls, _, _ => by simp [dot]
  | o :: os, [], _, _ => by simp [dot]
  | o :: os, l :: ls, h1, h2 => by
    have h3 := dot_bd os ls (fun x hx => h1 x (List.mem_cons_of_mem _ hx)) (fun x hx => h2 x (List.mem_cons_of_mem _ hx))
    have h4 : o * l ≤ 1048576 * 24 := Nat.mul_le_mul (h1 o List.mem_cons_self) (h2 l List.mem_cons_self)
    simp only [dot, List.length_cons]
    omega
/-- What Cost answers. -/
def coA (os ls : List Nat) : Int := if stE os ls = 0 then (dot os ls : Int) else 0
def CostRel (os ls : List Nat) (w : World) (v p : Value) (wr : World) : Prop :=
  ∃ i : Nat, i ≤ os.length ∧ p = .int .i64 (i : Int) ∧ v = .int .i64 (dot (os.take i) (ls.take i) : Int) ∧ stE (os.drop i) (ls.drop i) = stE os ls ∧ Below w.heap.size w wr
theorem ret_ni {a b c d : Int} (h : a = b) (h2 : c = d) : Ending.returned (.tuple #[.int .i64 a, .int .i64 c]) = .returned (.tuple #[.int .i64 b, .int .i64 d]) := by rw [h, h2]

set_option maxHeartbeats 1000000 in
theorem cost_ok (os ls : List Nat) (n : Nat) (hn : os.length = n) (hn2 : ls.length = n) (h64 : n ≤ 64) (ho : ∀ x ∈ os, x ≤ 1048576) (h24 : ∀ x ∈ ls, x ≤ 24) (A A2 : Option Addr) (c c2 : Nat) (w : World) (h : RdV w w.heap.size A (zc (ns os))) (h2 : RdV w w.heap.size A2 (zc (ns ls))) :
    Calls Tryz.prog 16 #[.slice A n c, .slice A2 n c2] w fun e w' => e = .returned (.tuple #[.int .i64 (coA os ls), .int .i64 (stE os ls)]) ∧ Below w.heap.size w w' := by
  have HC0 := kcheck_any (ns ls) n (by rw [ns_length]; exact hn2) (by omega) A2 c2 w h2
  rw [show kchk (ns ls) = 0 from kchk_ok ls (by omega) h24] at HC0
  have HC := Lib.hid HC0; clear HC0
  have HO : Hid (∀ V, Below w.heap.size w V → Calls Tryz.prog 43 #[.slice A n c] V fun e w' => e = .returned (.int .i64 0) ∧ Below V.heap.size V w') := by
    intro V hV
    have := often_any (ns os) n (by rw [ns_length]; exact hn) (by omega) A c V (h.on hV)
    rwa [ofE_ok os ho] at this
  have HR := Lib.hid h; clear h
  have HR2 := Lib.hid h2; clear h2
  have HN := Lib.hid hn; clear hn
  have HN2 := Lib.hid hn2; clear hn2
  have HBd : Hid (∀ i, dot (os.take i) (ls.take i) ≤ 1610612736) := by
    intro i
    have h1 := dot_bd (os.take i) (ls.take i) (fun x hx => ho x (List.mem_of_mem_take hx)) (fun x hx => h24 x (List.mem_of_mem_take hx))
    have h2 : (os.take i).length ≤ 64 := by rw [List.length_take]; have := HN.out; omega
    omega
  have HOs := Lib.hid ho; clear ho
  have H24 := Lib.hid h24; clear h24
  go_enter Tryz.func16, Tryz.ntmps16
  go_wp2_with fail
  refine HC.out.mono ?_
  rintro e w1 ⟨rfl, b1⟩
  have HB1 := Lib.hid b1; clear b1
  go_wp2_with fail
  refine (HO.out w1 HB1.out).mono ?_
  rintro e w2 ⟨rfl, b2⟩
  have HB2 : Hid (Below w.heap.size w w2) := HB1.out.trans (b2.mono HB1.out.size)
  clear b2
  go_wp2
  go_loopw [8, 28] (fun v p wr => CostRel os ls w v p wr) (fun _ p _ => n - (intOf p).toNat)
  case atStart => exact ⟨0, Nat.zero_le _, rfl, rfl, rfl, HB2.out⟩
  case round =>
    obtain ⟨i, hi, rfl, rfl, hst, hbel⟩ := hrel
    rw [HN.out] at hi
    have hbd := HBd.out i
    by_cases hlt : i < n
    · have h1 : i < os.length := by rw [HN.out]; exact hlt
      have h2 : i < ls.length := by rw [HN2.out]; exact hlt
      obtain ⟨b, off, rfl, hb, hc⟩ := (HR.out.below hbel hbel.size).at_ (ns_get os i h1)
      obtain ⟨b2, off2, rfl, hb2, hc2⟩ := (HR2.out.below hbel hbel.size).at_ (ns_get ls i h2)
      have hsd := stE_drop os ls i h1 h2
      rw [hst] at hsd
      have hdt := dot_take os ls i h1 h2
      have hbn := HBd.out (i + 1)
      rw [hdt] at hbn
      have hx := HOs.out _ (at_mem os i h1)
      have hy := H24.out _ (at_mem ls i h2)
      have HB := Lib.hid hbel
      have HDt := Lib.hid hdt; have HSd := Lib.hid hsd
      clear hst hbel hdt hsd
      unfold oAt at HDt HSd hbn
      generalize dot (os.take i) (ls.take i) = s at *
      generalize os[i]?.getD 0 = x at *
      generalize ls[i]?.getD 0 = y at *
      obtain ⟨q, hq⟩ : ∃ q : Nat, x * y = q := ⟨_, rfl⟩
      have hq2 : (x : Int) * (y : Int) = (q : Int) := by rw [← hq]; simp
      rw [hq] at HDt hbn
      by_cases hx0 : x = 0
      · subst hx0
        obtain rfl : q = 0 := by simpa using hq.symm
        have HS2 : Hid (stE (os.drop (i + 1)) (ls.drop (i + 1)) = stE os ls) := by show _ = _; rw [HSd.out, if_neg (by simp)]
        clear hq hq2 HSd
        go_wp2
        go_roundw
        case rel => exact ⟨i + 1, by rw [HN.out]; omega, by go_num, by rw [HDt.out]; go_num, HS2.out, HB.out⟩
        case measure => simp [intOf]; omega
      · have t0 : decide ((0 : Int) < (x : Int)) = true := by simp; omega
        have t0' : decide (0 < x) = true := by simp; omega
        by_cases hy0 : y = 0
        · subst hy0
          have HS2 : Hid (stE os ls = 4) := by show _ = _; rw [HSd.out, if_pos ⟨hx0, rfl⟩]
          have HA : Hid (coA os ls = 0) := by show _ = _; unfold coA; rw [HS2.out]; rfl
          clear hq hq2 HSd hx0
          go_wp2
          go_ret2
          exact ⟨ret_ni HA.out.symm HS2.out.symm, HB.out⟩
        · have t1 : ((y : Int) == 0) = false := by simp; omega
          have HS2 : Hid (stE (os.drop (i + 1)) (ls.drop (i + 1)) = stE os ls) := by show _ = _; rw [HSd.out, if_neg (fun h => hy0 h.2)]
          clear hq HSd hx0 hy0
          go_wp2
          go_roundw
          case rel => exact ⟨i + 1, by rw [HN.out]; omega, by go_num, by rw [HDt.out]; go_num, HS2.out, HB.out⟩
          case measure => simp [intOf]; omega
    · have e1 : os.drop i = [] := List.drop_of_length_le (by rw [HN.out]; omega)
      have e2 : os.take i = os := List.take_of_length_le (by rw [HN.out]; omega)
      have e3 : ls.take i = ls := List.take_of_length_le (by rw [HN2.out]; omega)
      rw [e1] at hst
      have HS : Hid (stE os ls = 0) := by show _ = _; rw [← hst]; unfold stE; rfl
      have HA : Hid (coA os ls = (dot (os.take i) (ls.take i) : Int)) := by show _ = _; unfold coA; rw [HS.out, e2, e3]; rfl
      have HB := Lib.hid hbel
      generalize dot (os.take i) (ls.take i) = s at *
      clear e1 e2 e3 hst hbel
      go_wp2
      go_ret2
      exact ⟨ret_ni HA.out.symm HS.out.symm, HB.out⟩
end
end Go.Proofs.YtndiocehkdbjkaaGreat
