/- Is an arc in a list. -/
import Derived.Test.YtnjdbcbfafbkiaaWEnd
import Derived.Test.YtnjdbcbfafbkiaaDJB
import Derived.Laws.AppendOwnNone
import Derived.Test.YtnjdbcbfafbkiaaWOp
namespace Go.Proofs.Ytnjdbcbfafbkiaa

section
section
set_option maxRecDepth 100000
set_option linter.unusedVariables false
open Go.RowKit Go.Shelf

theorem eqlA_run (a b c d : Int) (w : World) : (binOp .eql 36 (.agg #[.int .i64 a, .int .i64 b]) (.agg #[.int .i64 c, .int .i64 d])).run Try.prog w = .ok (.bool (a == c && b == d)) w := by
  have h60 := Try.underlying36
  have h3 := Try.underlying3
  by_cases h1 : a = c <;> by_cases h2 : b = d <;> simp [go_sem, h60, h3, h1, h2]
def HaRel (xs : List Ri) (z : Ri) (w : World) (p : Value) (wr : World) : Prop := ∃ i : Nat, i ≤ xs.length ∧ p = .int .i64 (i : Int) ∧ (∀ j, j < i → xs[j]?.getD (0, 0) ≠ z) ∧ Below w.heap.size w wr
end

section
set_option maxRecDepth 100000
set_option linter.unusedVariables false
open Go.RowKit Go.Shelf

/-- A graph and an error come back, and what reads as the graph lies behind what there was. -/
def GrPH (w : World) (g : List (List Nat)) (err : Int) (e : Ending) (w' : World) : Prop :=
  ∃ A R c, e = .returned (.tuple #[.agg #[.slice A g.length c], .int .i64 err]) ∧ gs R = g.map ns ∧ RdH w.heap.size w' A R ∧ Below w.heap.size w w'
set_option maxHeartbeats 1000000 in
theorem gof_okH (n : Nat) (hn : n ≤ 100) (L : List Ar) (hnd : L.Nodup) (hbd : ∀ a ∈ L, a.1 < n ∧ a.2 < n) (m : Nat) (hl : L.length = m) (hm : m ≤ 600) (A : Option Addr) (c : Nat) (w : World) (h : RdV w w.heap.size A (acs L)) :
    Calls Try.prog 17 #[.int .i64 (n : Int), .slice A m c] w (GrPH w (wa n L) 0) := by
  have HR := Lib.hid (rg_yes n hn w)
  have t1 : decide ((0 : Int) ≤ (n : Int)) = true := by simp
  have t2 : decide ((n : Int) ≤ 100) = true := by simp; omega
  have t3 : decide ((600 : Int) < (m : Int)) = false := by simp; omega
  have HC : Hid (∀ V, Below w.heap.size w V → Calls Try.prog 42 #[.slice A m c, .func (.func 80) #[] #[.pointer (some ⟨V.heap.size, 0, none⟩)]] (V.alloc (.cells #[.int .i64 (n : Int)] 3)) fun e w' => e = .returned (.int .i64 0) ∧ Below V.heap.size V w') := fun V hV => by
    have := ckarcs_any (n : Int) (by omega) V.heap.size (rz L) m (by rw [rz_length]; exact hl) hm A c (V.alloc (.cells #[.int .i64 (n : Int)] 3)) ((h.on hV).on (one_below V _)) (World.alloc_heap_new V _)
    rw [caE_ok (n : Int) L [] (by simpa using hnd) (fun a ha => by have := hbd a ha; omega)] at this
    exact this.mono fun e w' q => ⟨q.1, (one_below V _).trans (q.2.mono (by simp))⟩
  have HW : Hid (∀ V, Below w.heap.size w V → Calls Try.prog 44 #[.int .i64 (n : Int), .func (.func 82) #[] #[.pointer (some ⟨V.heap.size, 0, none⟩)]] (V.alloc (.cells #[.slice A m c] 30)) fun e w' => ∃ A2 R c2, e = .returned (.agg #[.slice A2 n c2]) ∧ gs R = (wa n L).map ns ∧ RdH (V.heap.size + 1) w' A2 R ∧ Below V.heap.size V w') := fun V hV => by
    refine (witharcs_in 82 #[.pointer (some ⟨V.heap.size, 0, none⟩)] L (by omega) (fun ys => ys = L) (fun M hM => by rw [hM]) n hn (fun a ha => (hbd a ha).1) hnd (V.alloc (.cells #[.slice A m c] 30)) entersVals1 (fun pre => pre <+: L) (fun X hX => ?_)).mono ?_
    · refine SeqStrong.of_K (Kp := Below (V.alloc (.cells #[.slice A m c] 30)).heap.size) (fun _ _ q => q.1) (vals_stops 4 (by omega) V.heap.size (V.alloc (.cells #[.slice A m c] 30)).heap.size m c A L hl (by omega) X hX.size ((hX.block _ (by simp)).trans (World.alloc_heap_new V _)) (((h.on hV).on (one_below V _)).below hX (Nat.le_refl _)))
    · rintro e w' ⟨A2, R, c2, rfl, q1, q2, q3⟩
      rw [wa_length]
      rw [World.size_alloc] at q2
      exact ⟨A2, R, c2, rfl, q1, q2, (one_below V _).trans (q3.mono (by simp))⟩
  have HL := Lib.hid (wa_length n L)
  clear hl h hnd hbd
  go_enter Try.func17, Try.ntmps17
  go_wp2_with fail
  refine HR.out.mono ?_
  rintro e w1 ⟨rfl, b1⟩
  have hz1 := b1.size
  rw [World.size_alloc] at hz1
  have HB := Lib.hid b1
  clear b1
  go_wp2_with fail
  refine (isnodeof_any (n : Int) w1).mono ?_
  rintro e w2 ⟨rfl, rfl⟩
  go_wp2_with fail
  refine (HC.out w1 ((one_below w _).trans (HB.out.mono (by omega)))).mono ?_
  rintro e w3 ⟨rfl, b3⟩
  have HB3 : Hid (Below (w.heap.size + 1) (w.alloc (.cells #[.slice none 0 0] 24)) w3 ∧ w.heap.size + 1 ≤ w3.heap.size) := ⟨HB.out.trans (b3.mono hz1), by have := b3.size; omega⟩
  clear b3
  go_wp2_with fail
  refine (vals_in A m c w3).mono ?_
  rintro e w4 ⟨rfl, rfl⟩
  go_wp2_with fail
  refine (HW.out w3 ((one_below w _).trans (HB3.out.1.mono (by omega)))).mono ?_
  rintro e w5 ⟨A2, R, c2, rfl, q1, q2, b5⟩
  have b5' := HB3.out.1.trans (b5.mono HB3.out.2)
  obtain ⟨kr, kf, kz⟩ := res_box b5'
  have HS := Lib.hid (res_set b5' (.slice A2 n c2))
  have HQ : Hid (gs R = (wa n L).map ns ∧ RdH w.heap.size (w5.setCell ⟨w.heap.size, 0, none⟩ (.slice A2 n c2)) A2 R) := by
    have hsz : (w5.setCell ⟨w.heap.size, 0, none⟩ (.slice A2 n c2)).heap.size = w5.heap.size := by simp [World.setCell]
    exact ⟨q1, fun W hk hW => q2 W (fun k h1 h2 => (hk k (by have := HB3.out.2; omega) (by rw [hsz]; exact h2)).trans (Below.heap_setCell _ _ _ _ (by have := HB3.out.2; show k ≠ w.heap.size; omega))) (by rw [hsz] at hW; exact hW)⟩
  have kr2 := HS.out.1
  clear b5 b5' q1 q2
  go_wp2
  refine bodyPost_ret (v := .tuple #[.agg #[.slice A2 n c2], .int .i64 0]) (by simp [results, Try.results17, go_sem, kr2]) rfl ?_
  exact ⟨A2, R, c2, by rw [HL.out], HQ.out.1, HQ.out.2, HS.out.2⟩
theorem grp_nil {w : World} {err : Int} {e : Ending} {w' : World} (h : GrP w [] err e w') : GrPH w [] err e w' := by
  obtain ⟨A, R, c, h1, h2, h3, h4⟩ := h
  have hR : R = [] := by have := congrArg List.length h2; rw [gs_length] at this; exact List.eq_nil_of_length_eq_zero this
  subst hR
  exact ⟨A, [], c, h1, h2, fun W _ _ => ⟨.inl rfl, fun r hr => by simp at hr⟩, h4⟩
theorem caE_snoc (N : Int) (p : Ri) : ∀ (L S : List Ar), (S ++ L).Nodup → (∀ a ∈ L, (a.1 : Int) < N ∧ (a.2 : Int) < N) → caE N S (rz L ++ [p]) = caO N (S ++ L) p
  | [], S, _, _ => by
    show caE N S [p] = _
    rw [caE_cons, List.append_nil]
    show (if caO N S p = 0 then 0 else caO N S p) = _
    split
    · rename_i h; exact h.symm
    · rfl
  | a :: t, S, hn, hb => by
    have ha := hb a (by simp)
    have hna : a ∉ S := fun hm => (List.nodup_append.1 hn).2.2 a hm a (by simp) rfl
    have h0 := caO_of (S := S) ha.1 ha.2 hna
    show caE N S (((a.1 : Int), (a.2 : Int)) :: (rz t ++ [p])) = _
    rw [caE_cons, if_pos h0]
    have e : toA ((a.1 : Int), (a.2 : Int)) = a := by unfold toA; simp
    rw [e, caE_snoc N p t (S ++ [a]) (by simpa using hn) (fun b hb' => hb b (by simp [hb']))]
    simp
/-- What graph.Of says of the arcs of a graph and one more. -/
theorem of_more (g : List (List Nat)) (hok : GOk g) (L : List Ar) (hL : arcs 0 g = L) (xa xb : Int) : ∃ (g1 : List (List Nat)) (e1 : Int),
    (∀ A c V, RdV V V.heap.size A (rcs (rz L ++ [(xa, xb)])) → Calls Try.prog 17 #[.int .i64 (g.length : Int), .slice A (L.length + 1) c] V (GrPH V g1 e1)) ∧
    (((e1 = 3 ∨ e1 = 2) ∧ g1 = []) ∨ (e1 = 6 ∧ g1 = [] ∧ (xa, xb) ∈ rz L) ∨ (e1 = 0 ∧ ∃ i j : Nat, xa = i ∧ xb = j ∧ i < g.length ∧ j < g.length ∧ L.length + 1 ≤ 600 ∧ g1 = wa g.length (L ++ [(i, j)]) ∧ (L ++ [(i, j)]).Nodup)) := by
  have hnd : L.Nodup := hL ▸ arcs_nodup g 0 hok.ris
  have hbd : ∀ a ∈ L, a.1 < g.length ∧ a.2 < g.length := fun a ha => arcs_bd hok a (by rw [hL]; exact ha)
  have h100 := hok.nodes
  have h600 := hok.many
  rw [hL] at h600
  have hzl : (rz L ++ [(xa, xb)]).length = L.length + 1 := by rw [List.length_append, rz_length]; rfl
  by_cases h6 : 600 < L.length + 1
  · exact ⟨[], 2, fun A c V h => (gof_many g.length h100 A (L.length + 1) c h6 V).mono fun e w' q => grp_nil q, .inl ⟨.inr rfl, rfl⟩⟩
  have hce := caE_snoc (g.length : Int) (xa, xb) L [] (by simpa using hnd) (fun a ha => by have := hbd a ha; omega)
  rw [List.nil_append] at hce
  by_cases hin : okG (g.length : Int) xa = true ∧ okG (g.length : Int) xb = true
  · obtain ⟨h1, h2⟩ := hin
    have h1' := h1
    have h2' := h2
    unfold okG at h1 h2
    simp only [decide_eq_true_eq] at h1 h2
    obtain ⟨i, rfl⟩ := Int.eq_ofNat_of_zero_le h1.1
    obtain ⟨j, rfl⟩ := Int.eq_ofNat_of_zero_le h2.1
    have et : toA ((i : Int), (j : Int)) = (i, j) := by unfold toA; simp
    by_cases hm : (i, j) ∈ L
    · have e6 : caO (g.length : Int) L ((i : Int), (j : Int)) = 6 := by unfold caO; rw [if_pos ⟨h1', h2'⟩, et, if_pos hm]
      rw [e6] at hce
      exact ⟨[], 6, fun A c V h => (gof_arcs g.length h100 _ (L.length + 1) hzl (by omega) 6 hce (by decide) A c V h).mono fun e w' q => grp_nil q, .inr (.inl ⟨rfl, rfl, List.mem_map.2 ⟨(i, j), hm, rfl⟩⟩)⟩
    · have hn2 : (L ++ [(i, j)]).Nodup := List.nodup_append.2 ⟨hnd, by simp, by rintro x hx y hy rfl; simp at hy; subst hy; exact hm hx⟩
      refine ⟨wa g.length (L ++ [(i, j)]), 0, fun A c V h => ?_, .inr (.inr ⟨rfl, i, j, rfl, rfl, by omega, by omega, by omega, rfl, hn2⟩)⟩
      have ez : rz L ++ [((i : Int), (j : Int))] = rz (L ++ [(i, j)]) := by unfold rz; rw [List.map_append]; rfl
      rw [ez] at h
      exact gof_okH g.length h100 (L ++ [(i, j)]) hn2 (fun a ha => by
        rcases List.mem_append.1 ha with q | q
        · exact hbd a q
        · simp at q; subst q; exact ⟨by omega, by omega⟩) (L.length + 1) (by simp) (by omega) A c V h
  · have e3 : caO (g.length : Int) L (xa, xb) = 3 := by unfold caO; rw [if_neg hin]
    rw [e3] at hce
    exact ⟨[], 3, fun A c V h => (gof_arcs g.length h100 _ (L.length + 1) hzl (by omega) 3 hce (by decide) A c V h).mono fun e w' q => grp_nil q, .inl ⟨.inl rfl, rfl⟩⟩
end
end

section
set_option maxRecDepth 100000
set_option linter.unusedVariables false
open Go.RowKit Go.Shelf

theorem acs_append (a b : List Ar) : acs (a ++ b) = acs a ++ acs b := by unfold acs rz; rw [List.map_append, rcs_append]
theorem acs_one (L : List Ar) : ∀ u ∈ acs L, u.oneCell' = true := fun u hu => rcs_one _ u hu
theorem rdv_cells {w : World} {B b off : Nat} {vs : List Value} (h : RdV w B (some ⟨b, off, none⟩) vs) (i : Nat) (v : Value) (hi : vs[i]? = some v) : b < B ∧ w.cell? ⟨b, off + i, none⟩ = some v := by
  obtain ⟨b2, o2, e, h1, h2⟩ := h.at_ hi
  simp only [Option.some.injEq, Addr.mk.injEq, and_true] at e
  obtain ⟨rfl, rfl⟩ := e
  exact ⟨h1, h2⟩
/-- An append of arcs to a list of the call's own, at a step of a region that draws its order. -/
theorem arcs_at {w : World} {ops : Array Oper} {o : Oper} {a : Act} {K : Act → World → Prop} {Q : Exit → Act → World → Prop} {E : Prop} (hgd : o.guard = none) (s x : Operand)
    (ho : o.op = .call { callee := .builtin .append, args := #[s, x], argTypes := #[30, 30] }) (base : Nat)
    (v : Value) (n : Nat) (xs : List Value) (hs : a.eval s = v) (hown : w.ownsRow base 36 2 v n xs)
    (b off m c : Nat) (news : List Value) (hx : a.eval x = .slice (some ⟨b, off, none⟩) m c) (hl : news.length = m * 2) (hc : ∀ j u, news[j]? = some u → w.cell? ⟨b, off + j, none⟩ = some u) (h1 : ∀ u ∈ news, u.oneCell' = true)
    (hb : n + m ≤ 1000000) (hbase : base ≤ w.heap.size)
    (h : ∀ v' w', w'.ownsRow base 36 2 v' (n + m) (xs ++ news) → w.grownBy w' v.ownBlock → (v'.ownBlock = v.ownBlock ∨ v'.ownBlock = some w.heap.size) → K (a.put o.dst v') w') : if Region.wanted o (yielded ops a.tmps) = true then Oper.wp Try.prog o a w K Q else E := by
  have hw : Region.wanted o (yielded ops a.tmps) = true := by simp [Region.wanted, hgd]
  rw [if_pos hw]
  obtain ⟨i0, hi, hz0, hz1, hz2⟩ := info_parts info_arc
  obtain ⟨v', w', hrun, h2, h3, h5, h4⟩ := run_append_own_at (P := Try.prog) w base 30 o.type 36 i0 (.agg #[.int .i64 0, .int .i64 0]) 2 16 Try.underlying30 hi hz0 hz1 hz2 rfl (by decide) v n xs hown ⟨b, off, none⟩ m c news hl (fun j u hj => by
    have : (⟨b, off, none⟩ : Addr).add j = ⟨b, off + j, none⟩ := by unfold Addr.add; split <;> simp_all
    rw [this]; exact hc j u hj) h1 (by unfold maxLen; omega) (by omega) hbase
  unfold Oper.wp execOp
  simp only [ho, resolve, invoke, builtin, Sem.run_bind, Sem.run_pure, Result.andThen_ok, List.map_toArray, List.map_cons, List.map_nil, hs, hx, hrun]
  exact h v' w' h2 h3 h4
theorem row_of (R : List Rw) (g : List (List Nat)) (h : gs R = g.map ns) (i : Nat) (hi : i < g.length) : (R[i]?.getD (none, 0, [])).2.2 = ns (row g i) := by
  have h1 : (gs R)[i]? = (g.map ns)[i]? := by rw [h]
  unfold gs at h1
  have hl : R.length = g.length := by have := congrArg List.length h; rwa [gs_length, List.length_map] at this
  rw [List.getElem?_map, List.getElem?_map, List.getElem?_eq_getElem (by omega), List.getElem?_eq_getElem hi] at h1
  simp only [Option.map_some, Option.some.injEq] at h1
  rw [List.getElem?_eq_getElem (by omega)]
  unfold row
  rw [List.getElem?_eq_getElem hi]
  exact h1
theorem ns_mem (l : List Nat) (x : Nat) : ((x : Int) ∈ ns l) ↔ x ∈ l := by
  unfold ns
  rw [List.mem_map]
  constructor
  · rintro ⟨y, hy, e⟩; have : y = x := by omega
    exact this ▸ hy
  · exact fun h => ⟨x, h, rfl⟩
theorem rdv_add {w : World} {B : Nat} {A : Option Addr} {vs : List Value} (h : RdV w B A vs) (ad : Addr) (hA : A = some ad) (j : Nat) (u : Value) (hj : vs[j]? = some u) : w.cell? (ad.add j) = some u := by
  obtain ⟨b2, o2, e, h1, h2⟩ := h.at_ hj
  rw [hA] at e
  cases e
  have : (⟨b2, o2, none⟩ : Addr).add j = ⟨b2, o2 + j, none⟩ := by unfold Addr.add; split <;> simp_all
  rw [this]; exact h2
/-- An append of arcs that are nil or not. -/
theorem arcs_atN {w : World} {ops : Array Oper} {o : Oper} {a : Act} {K : Act → World → Prop} {Q : Exit → Act → World → Prop} {E : Prop} (hgd : o.guard = none) (s x : Operand)
    (ho : o.op = .call { callee := .builtin .append, args := #[s, x], argTypes := #[30, 30] }) (base : Nat)
    (v : Value) (n : Nat) (xs : List Value) (hs : a.eval s = v) (hown : w.ownsRow base 36 2 v n xs)
    (A : Option Addr) (m c : Nat) (news : List Value) (hx : a.eval x = .slice A m c) (hN : A = none → c = 0) (hmc : m ≤ c) (hl : news.length = m * 2) (hc : RdV w w.heap.size A news) (h1 : ∀ u ∈ news, u.oneCell' = true)
    (hb : n + m ≤ 1000000) (hbase : base ≤ w.heap.size)
    (h : ∀ v' w', w'.ownsRow base 36 2 v' (n + m) (xs ++ news) → w.grownBy w' v.ownBlock → (v'.ownBlock = v.ownBlock ∨ v'.ownBlock = some w.heap.size) → K (a.put o.dst v') w') : if Region.wanted o (yielded ops a.tmps) = true then Oper.wp Try.prog o a w K Q else E := by
  have hw : Region.wanted o (yielded ops a.tmps) = true := by simp [Region.wanted, hgd]
  rw [if_pos hw]
  obtain ⟨i0, hi, hz0, hz1, hz2⟩ := info_parts info_arc
  cases A with
  | none =>
    obtain rfl := hN rfl
    obtain rfl : m = 0 := by omega
    obtain rfl : news = [] := List.eq_nil_of_length_eq_zero (by omega)
    have hrun := run_append_owned_none (P := Try.prog) (w := w) base 30 o.type 36 i0 2 Try.underlying30 hi v n xs hown
    unfold Oper.wp execOp
    simp only [ho, resolve, invoke, builtin, Sem.run_bind, Sem.run_pure, Result.andThen_ok, List.map_toArray, List.map_cons, List.map_nil, hs, hx, hrun]
    exact h v w (by rw [List.append_nil]; exact hown) (by constructor <;> simp) (.inl rfl)
  | some ad =>
    obtain ⟨v', w', hrun, h2, h3, h5, h4⟩ := run_append_own_at (P := Try.prog) w base 30 o.type 36 i0 (.agg #[.int .i64 0, .int .i64 0]) 2 16 Try.underlying30 hi hz0 hz1 hz2 rfl (by decide) v n xs hown ad m c news hl (rdv_add hc ad rfl) h1 (by unfold maxLen; omega) (by omega) hbase
    unfold Oper.wp execOp
    simp only [ho, resolve, invoke, builtin, Sem.run_bind, Sem.run_pure, Result.andThen_ok, List.map_toArray, List.map_cons, List.map_nil, hs, hx, hrun]
    exact h v' w' h2 h3 h4
theorem own_blk_lt {w : World} {base n r : Nat} {e : TypeId} {v : Value} {xs : List Value} (h : w.ownsRow base e 2 v n xs) (hr : v.ownBlock = some r) : r < w.heap.size := by
  rcases h.2 with ⟨h, _⟩ | ⟨g, cap, cur, h, _, hg, _⟩
  · subst h; cases hr
  · subst h; cases hr; exact (Array.getElem?_eq_some_iff.1 hg).1
theorem RdH.on {lo : Nat} {w w' : World} {A : Option Addr} {R : List Rw} (h : RdH lo w A R) (hb : Below w.heap.size w w') : RdH lo w' A R :=
  fun W hk hW => h W (fun k h1 h2 => (hk k h1 (Nat.lt_of_lt_of_le h2 hb.size)).trans (hb.block k h2)) (Nat.le_trans hb.size hW)

/-- What graph.Of says of the arcs of a graph and one more between two of its nodes. -/
theorem of_moreD (g : List (List Nat)) (hok : GOk g) (L : List Ar) (hL : arcs 0 g = L) (i j : Nat) (hi : i < g.length) (hj : j < g.length) : ∃ (g1 : List (List Nat)) (e1 : Int),
    (∀ A c V, RdV V V.heap.size A (rcs (rz L ++ [((i : Int), (j : Int))])) → Calls Try.prog 17 #[.int .i64 (g.length : Int), .slice A (L.length + 1) c] V (GrPH V g1 e1)) ∧
    ((e1 = 2 ∧ g1 = []) ∨ (e1 = 6 ∧ g1 = []) ∨ (e1 = 0 ∧ L.length + 1 ≤ 600 ∧ g1 = wa g.length (L ++ [(i, j)]) ∧ (L ++ [(i, j)]).Nodup)) := by
  have hnd : L.Nodup := hL ▸ arcs_nodup g 0 hok.ris
  have hbd : ∀ a ∈ L, a.1 < g.length ∧ a.2 < g.length := fun a ha => arcs_bd hok a (by rw [hL]; exact ha)
  have h100 := hok.nodes
  have h600 := hok.many
  rw [hL] at h600
  have hzl : (rz L ++ [((i : Int), (j : Int))]).length = L.length + 1 := by rw [List.length_append, rz_length]; rfl
  by_cases h6 : 600 < L.length + 1
  · exact ⟨[], 2, fun A c V h => (gof_many g.length h100 A (L.length + 1) c h6 V).mono fun e w' q => grp_nil q, .inl ⟨rfl, rfl⟩⟩
  have hce := caE_snoc (g.length : Int) ((i : Int), (j : Int)) L [] (by simpa using hnd) (fun a ha => by have := hbd a ha; omega)
  rw [List.nil_append] at hce
  have h1' : okG (g.length : Int) (i : Int) = true := by unfold okG; simp; omega
  have h2' : okG (g.length : Int) (j : Int) = true := by unfold okG; simp; omega
  have et : toA ((i : Int), (j : Int)) = (i, j) := by unfold toA; simp
  by_cases hm : (i, j) ∈ L
  · have e6 : caO (g.length : Int) L ((i : Int), (j : Int)) = 6 := by unfold caO; rw [if_pos ⟨h1', h2'⟩, et, if_pos hm]
    rw [e6] at hce
    exact ⟨[], 6, fun A c V h => (gof_arcs g.length h100 _ (L.length + 1) hzl (by omega) 6 hce (by decide) A c V h).mono fun e w' q => grp_nil q, .inr (.inl ⟨rfl, rfl⟩)⟩
  · have hn2 : (L ++ [(i, j)]).Nodup := List.nodup_append.2 ⟨hnd, by simp, by rintro x hx y hy rfl; simp at hy; subst hy; exact hm hx⟩
    refine ⟨wa g.length (L ++ [(i, j)]), 0, fun A c V h => ?_, .inr (.inr ⟨rfl, by omega, rfl, hn2⟩)⟩
    have ez : rz L ++ [((i : Int), (j : Int))] = rz (L ++ [(i, j)]) := by unfold rz; rw [List.map_append]; rfl
    rw [ez] at h
    exact gof_okH g.length h100 (L ++ [(i, j)]) hn2 (fun a ha => by
      rcases List.mem_append.1 ha with q | q
      · exact hbd a q
      · simp at q; subst q; exact ⟨hi, hj⟩) (L.length + 1) (by simp) (by omega) A c V h
theorem Fa.tri {g : List (List Nat)} {s m t : Nat} {F H : List Int} (hF : Fa g s F) (hH : Fa g m H) (hm : m < g.length) (ht : t < g.length) (h1 : 0 ≤ fv F m) (h2 : 0 ≤ fv H t) : 0 ≤ fv F t ∧ fv F t ≤ fv F m + fv H t := by
  obtain ⟨a, e1, r1⟩ := hF.way hm h1
  obtain ⟨b, e2, r2⟩ := hH.way ht h2
  have := hF.le ht (rc_trans a b t r1 r2)
  omega
theorem Fa.more {g k : List (List Nat)} {s t : Nat} {F K : List Int} (hF : Fa g s F) (hK : Fa k s K) (hl : k.length = g.length) (hr : ∀ i x, x ∈ row g i → x ∈ row k i) (ht : t < g.length) (h1 : 0 ≤ fv F t) : 0 ≤ fv K t ∧ fv K t ≤ fv F t := by
  obtain ⟨a, e1, r1⟩ := hF.way ht h1
  have := hK.le (by rw [hl]; exact ht) (rc_mono hr a t r1)
  omega
set_option maxHeartbeats 16000000 in
theorem walkThree_law (A : Option Addr) (c : Nat) (R : List Rw) (s m t : Int) (w : World) (hA : RdG w w.heap.size A R) (hn : R.length ≤ 140737488355328) (hs0 : -9223372036854775808 ≤ s ∧ s ≤ 9223372036854775807) (hm0 : -9223372036854775808 ≤ m ∧ m ≤ 9223372036854775807) (ht0 : -9223372036854775808 ≤ t ∧ t ≤ 9223372036854775807) :
    Calls Try.prog 3 #[.agg #[.slice A R.length c], .int .i64 s, .int .i64 m, .int .i64 t] w fun e w' => e = .returned (.bool true) ∧ Below w.heap.size w w' := by
  clear hs0 hm0 ht0
  obtain ⟨N, hN⟩ : ∃ N, R.length = N := ⟨_, rfl⟩
  rw [hN] at hn ⊢
  by_cases e0 : grE (gs R) = 0
  · obtain ⟨g, hg, hok⟩ := grE_zero _ e0
    have hgl : g.length = N := by have := congrArg List.length hg; rw [gs_length, List.length_map] at this; omega
    have hN1 : N ≤ 100 := by have := hok.nodes; omega
    have h600 := hok.many
    have HFt : Hid (∀ (s : Int), ¬ (0 ≤ s ∧ s < (N : Int)) → ∀ A c V, RdG V V.heap.size A R → Calls Try.prog 14 #[.agg #[.slice A N c], .int .i64 s] V fun e w' => ∃ A n c e1, e = .returned (.tuple #[.slice A n c, .int .i64 e1]) ∧ (e1 == 0) = false ∧ Below V.heap.size V w') := fun s hs A c V h => (far_tot R N hN (by omega) s A c V h).mono fun e w' ⟨A, n, c, e1, q1, q2, q3⟩ => ⟨A, n, c, e1, q1, by rw [q2]; exact decide_eq_false (fun q => hs (by have := (cnE_zero q).2 s (by simp); rwa [gs_length, hN] at this)), q3⟩
    have HFs : Hid (∀ (s : Int) A c V, RdG V V.heap.size A R → Calls Try.prog 14 #[.agg #[.slice A N c], .int .i64 s] V fun e w' => ∃ A n c e1, e = .returned (.tuple #[.slice A n c, .int .i64 e1]) ∧ Below V.heap.size V w') := fun s A c V h => (far_tot R N hN (by omega) s A c V h).mono fun e w' ⟨A, n, c, e1, q1, _, q3⟩ => ⟨A, n, c, e1, q1, q3⟩
    have HF : Hid (∀ (k : Nat) F, k < N → Fa g k F → ∀ A c V, RdG V V.heap.size A R → Calls Try.prog 14 #[.agg #[.slice A N c], .int .i64 (k : Int)] V fun e w' => ∃ b, e = .returned (.tuple #[.slice (some ⟨b, 0, none⟩) N N, .int .i64 0]) ∧ RdV w' w'.heap.size (some ⟨b, 0, none⟩) (zc F) ∧ Below V.heap.size V w') := fun k F hk hF A c V h => (far_ok R g hg hok N hN k hk F hF A c V h).mono fun e w' ⟨b, q1, q2⟩ => ⟨b, q1, q2.rd, q2.low⟩
    have HT : Hid (∀ A c V, RdG V V.heap.size A R → Calls Try.prog 16 #[.agg #[.slice A N c]] V (ArcsP V (arcs 0 g) 0)) := fun A c V h => garcs_ok R g hg hok N hN e0 A c V h
    have HOk : Hid (GOk g ∧ g.length = N) := ⟨hok, hgl⟩
    clear e0 hN hn hg hok hgl
    have HB : Hid (Below w.heap.size w w) := Below.refl _ w
    have HR := Lib.hid hA; clear hA
    go_enter Try.func3, Try.ntmps3
    have HBq : Hid (Below w.heap.size w (w.alloc (.cells #[.slice A N c] 24))) := one_below _ _
    replace HB : Hid (Below w.heap.size w (w.alloc (.cells #[.slice A N c] 24))) := HB.out.trans (HBq.out.mono HB.out.size)
    replace HR : Hid (RdG (w.alloc (.cells #[.slice A N c] 24)) ((w.alloc (.cells #[.slice A N c] 24))).heap.size A R) := HR.out.on HBq.out
    clear HBq
    have K0 : Hid (((w.alloc (.cells #[.slice A N c] 24))).cell? ⟨w.heap.size, 0, none⟩ = some (.slice A N c)) := (cell_at (World.alloc_heap_new w _) 0).trans rfl
    by_cases hs : 0 ≤ s ∧ s < (N : Int)
    · obtain ⟨k, rfl⟩ := Int.eq_ofNat_of_zero_le hs.1
      have hk : k < N := by omega
      obtain ⟨F, hF⟩ := fa_ex g k
      have HFa : Hid (Fa g k F ∧ F.length = N) := ⟨hF, hF.len.trans HOk.out.2⟩
      have HC := Lib.hid (HF.out k F hk hF A c _ HR.out)
      have k_K0 := K0.out
      go_wp2_with fail
      clear k_K0
      refine HC.out.mono ?_
      rintro e w1 ⟨b5, rfl, q5, bq⟩
      clear HC
      have HBc := Lib.hid bq; clear bq
      have HBq : Hid (Below (w.alloc (.cells #[.slice A N c] 24)).heap.size (w.alloc (.cells #[.slice A N c] 24)) w1) := HBc.out
      replace HB : Hid (Below w.heap.size w w1) := HB.out.trans (HBq.out.mono HB.out.size)
      replace HR : Hid (RdG w1 (w1).heap.size A R) := HR.out.on HBq.out
      replace K0 : Hid ((w1).cell? ⟨w.heap.size, 0, none⟩ = some (.slice A N c)) := (HBq.out.cell (World.block_lt_of_cell? _ _ K0.out)).trans K0.out
      clear HBq
      clear HBc
      clear hF
      have Q5 : Hid (RdV w1 (w1).heap.size (some ⟨b5, 0, none⟩) (zc F)) := q5
      clear q5
      by_cases hm : 0 ≤ m ∧ m < (N : Int)
      · obtain ⟨j, rfl⟩ := Int.eq_ofNat_of_zero_le hm.1
        have hj : j < N := by omega
        obtain ⟨H, hH⟩ := fa_ex g j
        have HHa : Hid (Fa g j H ∧ H.length = N) := ⟨hH, hH.len.trans HOk.out.2⟩
        have HC := Lib.hid (HF.out j H hj hH A c _ HR.out)
        have k_K0 := K0.out
        go_wp2_with fail
        clear k_K0
        refine HC.out.mono ?_
        rintro e w2 ⟨b6, rfl, q6, bq⟩
        clear HC
        have HBc := Lib.hid bq; clear bq
        have HBq : Hid (Below w1.heap.size w1 w2) := HBc.out
        replace HB : Hid (Below w.heap.size w w2) := HB.out.trans (HBq.out.mono HB.out.size)
        replace HR : Hid (RdG w2 (w2).heap.size A R) := HR.out.on HBq.out
        replace K0 : Hid ((w2).cell? ⟨w.heap.size, 0, none⟩ = some (.slice A N c)) := (HBq.out.cell (World.block_lt_of_cell? _ _ K0.out)).trans K0.out
        replace Q5 : Hid (RdV w2 (w2).heap.size (some ⟨b5, 0, none⟩) (zc F)) := Q5.out.on HBq.out
        clear HBq
        clear HBc
        clear hH
        have Q6 : Hid (RdV w2 (w2).heap.size (some ⟨b6, 0, none⟩) (zc H)) := q6
        clear q6
        have HC := Lib.hid (walkbegun_true w2)
        go_wp2_with fail
        refine HC.out.mono ?_
        rintro e w3 ⟨rfl, bq⟩
        clear HC
        have HBc := Lib.hid bq; clear bq
        have HBq : Hid (Below w2.heap.size w2 w3) := HBc.out
        replace HB : Hid (Below w.heap.size w w3) := HB.out.trans (HBq.out.mono HB.out.size)
        replace HR : Hid (RdG w3 (w3).heap.size A R) := HR.out.on HBq.out
        replace K0 : Hid ((w3).cell? ⟨w.heap.size, 0, none⟩ = some (.slice A N c)) := (HBq.out.cell (World.block_lt_of_cell? _ _ K0.out)).trans K0.out
        replace Q5 : Hid (RdV w3 (w3).heap.size (some ⟨b5, 0, none⟩) (zc F)) := Q5.out.on HBq.out
        replace Q6 : Hid (RdV w3 (w3).heap.size (some ⟨b6, 0, none⟩) (zc H)) := Q6.out.on HBq.out
        clear HBq
        clear HBc
        by_cases ht : 0 ≤ t ∧ t < (N : Int)
        · obtain ⟨l, rfl⟩ := Int.eq_ofNat_of_zero_le ht.1
          have hl : l < N := by omega
          clear hs hm ht HFt HFs
          have t1 : decide ((l : Int) < 0) = false := by simp
          have t2 : decide ((N : Int) ≤ (l : Int)) = false := by simp; omega
          have t2n : decide (N ≤ l) = false := by simp; omega
          have t3 : (0 : Int) ≤ (l : Int) := by omega
          have t4 : (l : Int) < (N : Int) := by omega
          have t5 : (0 : Int) ≤ (j : Int) := by omega
          have t6 : (j : Int) < (N : Int) := by omega
          have k1 := rdv_at Q5.out (N := N) j (by rw [HFa.out.2]; exact hj)
          have k2 := rdv_at Q6.out (N := N) l (by rw [HHa.out.2]; exact hl)
          have k3 := rdv_at Q5.out (N := N) l (by rw [HFa.out.2]; exact hl)
          have htri := HFa.out.1.tri HHa.out.1 (t := l) (by rw [HOk.out.2]; exact hj) (by rw [HOk.out.2]; exact hl)
          have hfb := HFa.out.1.lt HOk.out.1.bdd (by rw [HOk.out.2]; exact hk) j (by rw [HOk.out.2]; exact hj)
          have hhb := HHa.out.1.lt HOk.out.1.bdd (by rw [HOk.out.2]; exact hj) l (by rw [HOk.out.2]; exact hl)
          rw [HOk.out.2] at hfb hhb
          generalize fv F j = u1 at *
          generalize fv H l = u2 at *
          generalize fv F l = u3 at *
          go_wp2
          generalize hQ : Exit.then _ _ = Q
          have HTail : Hid (∀ (W : World) (u_50 u_51 u_52 u_53 u_54 u_55 u_56 u_57 u_58 u_59 u_60 u_61 u_62 u_63 u_64 u_65 u_66 u_67 u_68 u_69 u_70 u_71 u_72 u_73 u_74 u_75 u_76 u_77 u_78 u_79 u_80 u_81 u_82 u_83 : Value), Below w3.heap.size w3 W → Q Exit.normal { tmps := #[Value.agg #[Value.slice A N c], Value.int IntKind.i64 ↑k, Value.int IntKind.i64 ↑j, Value.int IntKind.i64 ↑l, Value.pointer (some { block := w.heap.size, off := 0 }), undef, undef, undef, Value.bool false, Value.slice (some { block := b5, off := 0 }) N N, Value.int IntKind.i64 0, Value.slice (some { block := b6, off := 0 }) N N, Value.int IntKind.i64 0, undef, undef, undef, undef, undef, undef, undef, Value.tuple #[Value.slice (some { block := b5, off := 0 }) N N, Value.int IntKind.i64 0], Value.agg #[Value.slice A N c], Value.int IntKind.i64 ↑k, Value.tuple #[Value.slice (some { block := b5, off := 0 }) N N, Value.int IntKind.i64 0], Value.slice (some { block := b5, off := 0 }) N N, Value.int IntKind.i64 0, Value.tuple #[Value.slice (some { block := b6, off := 0 }) N N, Value.int IntKind.i64 0], Value.agg #[Value.slice A N c], Value.int IntKind.i64 ↑j, Value.tuple #[Value.slice (some { block := b6, off := 0 }) N N, Value.int IntKind.i64 0], Value.slice (some { block := b6, off := 0 }) N N, Value.int IntKind.i64 0, Value.bool true, Value.bool false, Value.int IntKind.i64 0, Value.bool false, Value.bool false, Value.int IntKind.i64 0, Value.bool false, Value.bool false, Value.bool false, Value.int IntKind.i64 ↑l, Value.bool false, Value.bool false, Value.bool false, Value.int IntKind.i64 ↑l, Value.slice (some { block := b5, off := 0 }) N N, Value.int IntKind.i64 ↑N, Value.bool false, Value.bool false, u_50, u_51, u_52, u_53, u_54, u_55, u_56, u_57, u_58, u_59, u_60, u_61, u_62, u_63, u_64, u_65, u_66, u_67, u_68, u_69, u_70, u_71, u_72, u_73, u_74, u_75, u_76, u_77, u_78, u_79, u_80, u_81, u_82, u_83, .bool false, undef, undef, undef, undef, undef, undef, undef, undef, undef, undef, undef, undef, undef, undef, undef, undef, undef, undef, undef, undef, undef, undef, undef, undef, undef, undef, undef, undef, undef, undef, undef, undef, undef, undef, undef, undef, undef, undef, undef, undef, undef, undef, undef, undef, undef, undef, undef, undef, undef, undef, undef, undef, undef, undef, undef, undef, undef, undef, undef, undef, undef, undef, undef, undef, undef, undef, undef, undef, undef, undef, undef, undef, undef], defers := [] } W) := by
           as_aux_lemma =>
            intro W u_50 u_51 u_52 u_53 u_54 u_55 u_56 u_57 u_58 u_59 u_60 u_61 u_62 u_63 u_64 u_65 u_66 u_67 u_68 u_69 u_70 u_71 u_72 u_73 u_74 u_75 u_76 u_77 u_78 u_79 u_80 u_81 u_82 u_83 lo
            rw [← hQ]
            clear hQ htri k1 k2 k3 Q6
            have HBq : Hid (Below w3.heap.size w3 W) := lo
            replace HB : Hid (Below w.heap.size w W) := HB.out.trans (HBq.out.mono HB.out.size)
            replace HR : Hid (RdG W (W).heap.size A R) := HR.out.on HBq.out
            replace K0 : Hid ((W).cell? ⟨w.heap.size, 0, none⟩ = some (.slice A N c)) := (HBq.out.cell (World.block_lt_of_cell? _ _ K0.out)).trans K0.out
            replace Q5 : Hid (RdV W (W).heap.size (some ⟨b5, 0, none⟩) (zc F)) := Q5.out.on HBq.out
            clear HBq
            clear lo
            obtain ⟨L, hL⟩ : ∃ L, arcs 0 g = L := ⟨_, rfl⟩
            obtain ⟨g1, e1, hof, hcs⟩ := of_moreD g HOk.out.1 L hL j l (by rw [HOk.out.2]; exact hj) (by rw [HOk.out.2]; exact hl)
            rw [HOk.out.2] at hof hcs
            rw [hL] at HT h600
            obtain ⟨n, hln⟩ : ∃ n, L.length = n := ⟨_, rfl⟩
            rw [hln] at h600 hof hcs
            obtain ⟨N1, hN1l⟩ : ∃ N1, g1.length = N1 := ⟨_, rfl⟩
            unfold GrPH at hof
            rw [hN1l] at hof
            have HO := Lib.hid hof
            have HCs := Lib.hid hcs
            unfold ArcsP at HT
            rw [hln] at HT
            have HLn := Lib.hid (⟨hln, hN1l, hL⟩ : _ ∧ _ ∧ _)
            clear hL hln hof hcs hN1l
            have HC := Lib.hid (HT.out A c _ HR.out)
            have k_K0 := K0.out
            go_wp2_with fail
            clear k_K0
            refine HC.out.mono ?_
            rintro e w4 ⟨A1, c1, rfl, hcp, h1, bq⟩
            clear HC
            have HBc := Lib.hid bq; clear bq
            have HBq : Hid (Below W.heap.size W w4) := HBc.out
            replace HB : Hid (Below w.heap.size w w4) := HB.out.trans (HBq.out.mono HB.out.size)
            replace HR : Hid (RdG w4 (w4).heap.size A R) := HR.out.on HBq.out
            replace K0 : Hid ((w4).cell? ⟨w.heap.size, 0, none⟩ = some (.slice A N c)) := (HBq.out.cell (World.block_lt_of_cell? _ _ K0.out)).trans K0.out
            replace Q5 : Hid (RdV w4 (w4).heap.size (some ⟨b5, 0, none⟩) (zc F)) := Q5.out.on HBq.out
            clear HBq
            clear HBc
            have H1 : Hid (RdV w4 (w4).heap.size A1 (acs L)) := h1
            clear h1
            have k0 := K0.out
            go_wp2_with fail
            generalize hQ2 : Exit.then _ _ = Q2
            have HRest : Hid (∀ (W : World) (b3 b7 b13 : Nat) (v5 v8 : Value) (A4 : Option Addr) (R4 : List Rw) (c4 : Nat), Below w4.heap.size w4 W → W.heap[b13]? = some (.cells #[.slice A4 N1 c4] 24 (0, 0)) → gs R4 = g1.map ns → RdG W W.heap.size A4 R4 → Q2 Exit.normal { tmps := #[Value.agg #[Value.slice A N c], Value.int IntKind.i64 ↑k, Value.int IntKind.i64 ↑j, Value.int IntKind.i64 ↑l, Value.pointer (some { block := w.heap.size, off := 0 }), undef, undef, undef, Value.bool false, Value.slice (some { block := b5, off := 0 }) N N, Value.int IntKind.i64 0, Value.slice (some { block := b6, off := 0 }) N N, Value.int IntKind.i64 0, Value.slice A1 n c1, Value.int IntKind.i64 0, Value.pointer (some { block := b13, off := 0 }), Value.int IntKind.i64 e1, undef, undef, undef, Value.tuple #[Value.slice (some { block := b5, off := 0 }) N N, Value.int IntKind.i64 0], Value.agg #[Value.slice A N c], Value.int IntKind.i64 ↑k, Value.tuple #[Value.slice (some { block := b5, off := 0 }) N N, Value.int IntKind.i64 0], Value.slice (some { block := b5, off := 0 }) N N, Value.int IntKind.i64 0, Value.tuple #[Value.slice (some { block := b6, off := 0 }) N N, Value.int IntKind.i64 0], Value.agg #[Value.slice A N c], Value.int IntKind.i64 ↑j, Value.tuple #[Value.slice (some { block := b6, off := 0 }) N N, Value.int IntKind.i64 0], Value.slice (some { block := b6, off := 0 }) N N, Value.int IntKind.i64 0, Value.bool true, Value.bool false, Value.int IntKind.i64 0, Value.bool false, Value.bool false, Value.int IntKind.i64 0, Value.bool false, Value.bool false, Value.bool false, Value.int IntKind.i64 ↑l, Value.bool false, Value.bool false, Value.bool false, Value.int IntKind.i64 ↑l, Value.slice (some { block := b5, off := 0 }) N N, Value.int IntKind.i64 ↑N, Value.bool false, Value.bool false, u_50, u_51, u_52, u_53, u_54, u_55, u_56, u_57, u_58, u_59, u_60, u_61, u_62, u_63, u_64, u_65, u_66, u_67, u_68, u_69, u_70, u_71, u_72, u_73, u_74, u_75, u_76, u_77, u_78, u_79, u_80, u_81, u_82, u_83, Value.bool false, Value.tuple #[Value.slice A1 n c1, Value.int IntKind.i64 0], Value.agg #[Value.slice A N c], Value.tuple #[Value.slice A1 n c1, Value.int IntKind.i64 0], Value.slice A1 n c1, Value.int IntKind.i64 0, Value.tuple #[Value.agg #[Value.slice A4 N1 c4], Value.int IntKind.i64 e1], Value.pointer (some { block := w.heap.size, off := 0 }), Value.slice A N c, Value.int IntKind.i64 ↑N, Value.slice (some { block := b3, off := 0 }) 0 0, Value.slice A1 n c1, v5, Value.int IntKind.i64 ↑j, Value.int IntKind.i64 ↑l, Value.agg #[Value.int IntKind.i64 ↑j, Value.int IntKind.i64 ↑l], Value.slice (some { block := b7, off := 0 }) 1 1, v8, Value.tuple #[Value.agg #[Value.slice A4 N1 c4], Value.int IntKind.i64 e1], Value.agg #[Value.slice A4 N1 c4], Value.int IntKind.i64 e1, undef, undef, undef, undef, undef, undef, undef, undef, undef, undef, undef, undef, undef, undef, undef, undef, undef, undef, undef, undef, undef, undef, undef, undef, undef, undef, undef, undef, undef, undef, undef, undef, undef, undef, undef, undef, undef, undef, undef, undef, undef, undef, undef, undef, undef, undef, undef, undef, undef, undef, undef, undef, undef], defers := [] } W) := by
             as_aux_lemma =>
              intro W b3 b7 b13 v5 v8 A4 R4 c4 lo a13 q1 hG4
              rw [← hQ2]
              clear hQ2 k0
              have HBq : Hid (Below w4.heap.size w4 W) := lo
              replace HB : Hid (Below w.heap.size w W) := HB.out.trans (HBq.out.mono HB.out.size)
              replace HR : Hid (RdG W (W).heap.size A R) := HR.out.on HBq.out
              replace K0 : Hid ((W).cell? ⟨w.heap.size, 0, none⟩ = some (.slice A N c)) := (HBq.out.cell (World.block_lt_of_cell? _ _ K0.out)).trans K0.out
              replace Q5 : Hid (RdV W (W).heap.size (some ⟨b5, 0, none⟩) (zc F)) := Q5.out.on HBq.out
              clear HBq
              have K4 : Hid ((W).cell? ⟨b13, 0, none⟩ = some (.slice A4 N1 c4)) := (cell_at a13 0).trans rfl
              have H4 : Hid (RdG W (W).heap.size A4 R4) := hG4
              clear lo a13 hG4
              rcases HCs.out with ⟨h2, hg⟩ | ⟨h2, hg⟩ | ⟨h0, h6, hg, hnd⟩
              · subst h2; clear hg; go_wp2; go_ret; exact ⟨rfl, HB.out⟩
              · subst h2; clear hg; go_wp2; go_ret; exact ⟨rfl, HB.out⟩
              · subst h0 hg
                obtain rfl : N1 = N := by have := HLn.out.2.1; rw [wa_length] at this; exact this.symm
                have hbd2 : ∀ a ∈ L ++ [(j, l)], a.1 < N1 ∧ a.2 < N1 := fun a ha => by
                  rcases List.mem_append.1 ha with z | z
                  · have := arcs_bd HOk.out.1 a (by rw [HLn.out.2.2]; exact z); rw [HOk.out.2] at this; exact this
                  · simp at z; subst z; exact ⟨hj, hl⟩
                have hok2 : GOk (wa N1 (L ++ [(j, l)])) := wa_ok hN1 hnd hbd2 (by rw [List.length_append, HLn.out.1]; exact h6)
                have hmr : ∀ i x, x ∈ row g i → x ∈ row (wa N1 (L ++ [(j, l)])) i := fun i x hx => by
                  have hi := row_lt hx
                  rw [HOk.out.2] at hi
                  rw [wa_mem _ _ _ _ hi, ← HLn.out.2.2]
                  exact List.mem_append_left _ ((arcs_mem0 g (i, x)).2 hx)
                have hR4 : R4.length = N1 := by have := congrArg List.length q1; rwa [gs_length, List.length_map, wa_length] at this
                obtain ⟨K, hK⟩ := fa_ex (wa N1 (L ++ [(j, l)])) k
                have HMo : Hid (∀ t, t < N1 → 0 ≤ fv F t → 0 ≤ fv K t ∧ fv K t ≤ fv F t) := fun t ht h1 => Fa.more HFa.out.1 hK (by rw [wa_length]; exact HOk.out.2.symm) hmr (by rw [HOk.out.2]; exact ht) h1
                have HKl : Hid (K.length = N1) := by show _ = _; rw [hK.len, wa_length]
                have HF4 : Hid (∀ V, RdG V V.heap.size A4 R4 → Calls Try.prog 14 #[.agg #[.slice A4 N1 c4], .int .i64 (k : Int)] V fun e w' => ∃ b, e = .returned (.tuple #[.slice (some ⟨b, 0, none⟩) N1 N1, .int .i64 0]) ∧ RdV w' w'.heap.size (some ⟨b, 0, none⟩) (zc K) ∧ Below V.heap.size V w') := fun V h => (far_ok R4 _ q1 hok2 N1 hR4 k hk K hK A4 c4 V h).mono fun e w' ⟨b, q1, q2⟩ => ⟨b, q1, q2.rd, q2.low⟩
                clear hbd2 hok2 hmr hR4 hK q1 hnd h6 HCs HO HT HF
                have HC := Lib.hid (HF4.out _ H4.out)
                have k_K4 := K4.out
                go_wp2_with fail
                clear k_K4
                refine HC.out.mono ?_
                rintro e w5 ⟨b17, rfl, q17, bq⟩
                clear HC
                have HBc := Lib.hid bq; clear bq
                have HBq : Hid (Below W.heap.size W w5) := HBc.out
                replace HB : Hid (Below w.heap.size w w5) := HB.out.trans (HBq.out.mono HB.out.size)
                replace HR : Hid (RdG w5 (w5).heap.size A R) := HR.out.on HBq.out
                replace K0 : Hid ((w5).cell? ⟨w.heap.size, 0, none⟩ = some (.slice A N1 c)) := (HBq.out.cell (World.block_lt_of_cell? _ _ K0.out)).trans K0.out
                replace Q5 : Hid (RdV w5 (w5).heap.size (some ⟨b5, 0, none⟩) (zc F)) := Q5.out.on HBq.out
                replace K4 : Hid ((w5).cell? ⟨b13, 0, none⟩ = some (.slice A4 N1 c4)) := (HBq.out.cell (World.block_lt_of_cell? _ _ K4.out)).trans K4.out
                replace H4 : Hid (RdG w5 (w5).heap.size A4 R4) := H4.out.on HBq.out
                clear HBq
                clear HBc
                have Q17 : Hid (RdV w5 (w5).heap.size (some ⟨b17, 0, none⟩) (zc K)) := q17
                clear q17
                go_wp2
                go_loopw [19] (fun p wr => ∃ u : Nat, u ≤ N1 ∧ p = .int .i64 (u : Int) ∧ Below w5.heap.size w5 wr) (fun p _ => N1 - (intOf p).toNat)
                case atStart => exact ⟨0, Nat.zero_le _, rfl, Below.refl _ _⟩
                case round =>
                  obtain ⟨u, hu, rfl, hbel⟩ := hrel
                  by_cases hlt : u < N1
                  · have y5 := rdv_at (Q5.out.on hbel) (N := N1) u (by rw [HFa.out.2]; exact hlt)
                    have y6 := rdv_at (Q17.out.on hbel) (N := N1) u (by rw [HKl.out]; exact hlt)
                    have hmo := HMo.out u hlt
                    have HBl := Lib.hid hbel
                    have g1 : (0 : Int) ≤ (u : Int) := by omega
                    have g2 : (u : Int) < (N1 : Int) := by omega
                    generalize fv F u = f at *
                    generalize fv K u = x at *
                    clear hbel
                    by_cases h1 : 0 ≤ f
                    · obtain ⟨h2, h3⟩ := hmo h1
                      have r1 : decide ((0 : Int) ≤ f) = true := decide_eq_true h1
                      have r2 : decide (x < 0) = false := by simp; omega
                      have r3 : decide (f < x) = false := by simp; omega
                      clear hmo h1 h2 h3
                      go_wp2
                      go_quiet (fail)
                      go_wp2
                      go_roundw
                      case rel => exact ⟨u + 1, by omega, by go_num, below_drewN HBl.out _⟩
                      case measure => simp [intOf]; omega
                    · have r1 : decide ((0 : Int) ≤ f) = false := decide_eq_false h1
                      clear hmo h1
                      go_wp2
                      go_quiet (fail)
                      go_wp2
                      go_roundw
                      case rel => exact ⟨u + 1, by omega, by go_num, below_drewN HBl.out _⟩
                      case measure => simp [intOf]; omega
                  · obtain rfl : u = N1 := by omega
                    have HBl := Lib.hid (HB.out.trans (hbel.mono HB.out.size))
                    clear hbel
                    go_wp2
                    go_ret
                    exact ⟨rfl, HBl.out⟩
            have HCell : Hid (∀ V, Below w4.heap.size w4 V → V.cell? ⟨w.heap.size, 0, none⟩ = some (.slice A N c) ∧ True) := fun V hV => ⟨(hV.cell (World.block_lt_of_cell? _ _ k0)).trans k0, trivial⟩
            have HArc : Hid (∀ V, Below w4.heap.size w4 V → RdV V V.heap.size A1 (acs L)) := fun V hV => H1.out.on hV
            have hcz := hcp.1
            have hacl : (acs L).length = n * 2 := by rw [acs_length, HLn.out.1]
            have lo : Below w4.heap.size w4 w4.drew := (Below.refl _ w4).drew
            refine Code.wp_mono OnlyN.imp (wp_region_held_drew (S := fun V => V.cell? ⟨w.heap.size, 0, none⟩ = some (.slice A N c) ∧ True) (by kernel_rfl) ⟨k0, trivial⟩ (fun hHeld => ?_))
            obtain ⟨W0, hW0⟩ : ∃ W0, w4.drew = W0 := ⟨_, rfl⟩
            rw [hW0] at hHeld lo ⊢
            clear hW0 k0 hQ2
            (refine gheld_val (i := 0) rfl (by kernel_rfl) (by kernel_rfl) (by kernel_rfl) hHeld (by rfl) ?_; apply Exists.intro; refine ⟨fun wq hSw => ?_, ?_⟩; ((try dsimp only at hSw); obtain ⟨c1, _⟩ := hSw; go_simp; try rfl); try simp only [Act.put, List.setIfInBounds_toArray, List.set_cons_zero, List.set_cons_succ])
            (refine gheld_val (i := 1) rfl (by kernel_rfl) (by kernel_rfl) (by kernel_rfl) hHeld (by rfl) ?_; apply Exists.intro; refine ⟨fun wq hSw => ?_, ?_⟩; ((try dsimp only at hSw); obtain ⟨c1, _⟩ := hSw; go_simp; try rfl); try simp only [Act.put, List.setIfInBounds_toArray, List.set_cons_zero, List.set_cons_succ])
            (refine gheld_val (i := 2) rfl (by kernel_rfl) (by kernel_rfl) (by kernel_rfl) hHeld (by rfl) ?_; apply Exists.intro; refine ⟨fun wq hSw => ?_, ?_⟩; ((try dsimp only at hSw); obtain ⟨c1, _⟩ := hSw; go_simp; try rfl); try simp only [Act.put, List.setIfInBounds_toArray, List.set_cons_zero, List.set_cons_succ])
            (refine gheld_val (i := 4) rfl (by kernel_rfl) (by kernel_rfl) (by kernel_rfl) hHeld (by rfl) ?_; apply Exists.intro; refine ⟨fun wq hSw => ?_, ?_⟩; ((try dsimp only at hSw); obtain ⟨c1, _⟩ := hSw; go_simp; try rfl); try simp only [Act.put, List.setIfInBounds_toArray, List.set_cons_zero, List.set_cons_succ])
            (refine gheld_val (i := 6) rfl (by kernel_rfl) (by kernel_rfl) (by kernel_rfl) hHeld (by rfl) ?_; apply Exists.intro; refine ⟨fun wq hSw => ?_, ?_⟩; ((try dsimp only at hSw); obtain ⟨c1, _⟩ := hSw; go_simp; try rfl); try simp only [Act.put, List.setIfInBounds_toArray, List.set_cons_zero, List.set_cons_succ])
            (refine gheld_val (i := 7) rfl (by kernel_rfl) (by kernel_rfl) (by kernel_rfl) hHeld (by rfl) ?_; apply Exists.intro; refine ⟨fun wq hSw => ?_, ?_⟩; ((try dsimp only at hSw); obtain ⟨c1, _⟩ := hSw; go_simp; try rfl); try simp only [Act.put, List.setIfInBounds_toArray, List.set_cons_zero, List.set_cons_succ])
            (refine gheld_val (i := 8) rfl (by kernel_rfl) (by kernel_rfl) (by kernel_rfl) hHeld (by rfl) ?_; apply Exists.intro; refine ⟨fun wq hSw => ?_, ?_⟩; ((try dsimp only at hSw); obtain ⟨c1, _⟩ := hSw; go_simp; try rfl); try simp only [Act.put, List.setIfInBounds_toArray, List.set_cons_zero, List.set_cons_succ])
            refine wpAnyH_ready (rs := [3, 9, 15]) (by kernel_rfl) (by simp) ?_
            refine AllReadyH.cons (gof_drop rfl) (fun K hK => ?_) (AllReadyH.cons (gof_drop rfl) (fun K hK => ?_) (AllReadyH.cons (gof_drop rfl) (fun K hK => ?_) AllReadyH.nil))
            · go_simp
              obtain ⟨V1, hV⟩ : ∃ V, W0.alloc (.cells #[] 36) = V := ⟨_, rfl⟩
              have szq : V1.heap.size = W0.heap.size + 1 := by rw [← hV]; exact World.size_alloc _ _
              have sz : V1.heap.size ≤ W0.heap.size + 1 ∧ W0.heap.size + 1 ≤ V1.heap.size := by omega
              clear szq
              have hb : Below W0.heap.size W0 V1 := hV ▸ one_below _ _
              have gz := lo.size
              have lo := lo.trans (hb.mono lo.size)
              have anew : V1.heap[W0.heap.size]? = some (.cells #[] 36 (0, 0)) := hV ▸ World.alloc_heap_new _ _
              have own : V1.ownsRow w4.heap.size 36 2 (.slice (some ⟨W0.heap.size, 0, none⟩) 0 0) 0 [] := ⟨rfl, .inr ⟨W0.heap.size, 0, #[], rfl, by omega, anew, by omega, by decide, rfl, rfl⟩⟩
              clear anew
              rw [hV]
              clear hV
              refine hK.out _ _ (HCell.out _ lo) (fun hHeld => ?_)
              clear hK K
              try simp only [Act.put, List.setIfInBounds_toArray, List.set_cons_zero, List.set_cons_succ]
              refine wpAnyH_ready (rs := [5, 9, 15]) (by kernel_rfl) (by simp) ?_
              refine AllReadyH.cons (gof_drop rfl) (fun K hK => ?_) (AllReadyH.cons (gof_drop rfl) (fun K hK => ?_) (AllReadyH.cons (gof_drop rfl) (fun K hK => ?_) AllReadyH.nil))
              · refine arcs_atN (by rfl) (.tmp 94) (.tmp 95) (by rfl) w4.heap.size _ 0 [] (by rfl) own A1 n c1 (acs L) (by rfl) hcp.2 hcp.1 hacl (HArc.out _ lo) (acs_one _) (by omega) lo.size ?_
                intro v5 V2 own2 gr h4
                have lo2 := lo.trans (grown_low gr own lo.size)
                have gsz := gr.size
                have own := own2
                have lo := lo2
                clear own2 lo2 gr h4
                rw [Nat.zero_add, List.nil_append] at own
                obtain ⟨Ax5, cx5, rfl⟩ := own_sliceT own
                refine hK.out _ _ (HCell.out _ lo) (fun hHeld => ?_)
                clear hK K
                try simp only [Act.put, List.setIfInBounds_toArray, List.set_cons_zero, List.set_cons_succ]
                refine wpAnyH_ready (rs := [9, 15]) (by kernel_rfl) (by simp) ?_
                refine AllReadyH.cons (gof_drop rfl) (fun K hK => ?_) (AllReadyH.cons (gof_drop rfl) (fun K hK => ?_) AllReadyH.nil)
                · have own0 := own
                  go_simp
                  obtain ⟨V3, hV⟩ : ∃ V, V2.alloc (.cells #[.int .i64 (j : Int), .int .i64 (l : Int)] 36) = V := ⟨_, rfl⟩
                  have szq : V3.heap.size = V2.heap.size + 1 := by rw [← hV]; exact World.size_alloc _ _
                  have sz : V3.heap.size ≤ V2.heap.size + 1 ∧ V2.heap.size + 1 ≤ V3.heap.size := by omega
                  clear szq
                  have hb : Below V2.heap.size V2 V3 := hV ▸ one_below _ _
                  have gz := lo.size
                  have lo := lo.trans (hb.mono lo.size)
                  have anew : V3.heap[V2.heap.size]? = some (.cells #[.int .i64 (j : Int), .int .i64 (l : Int)] 36 (0, 0)) := hV ▸ World.alloc_heap_new _ _
                  have own : V3.ownsRow w4.heap.size 36 2 (.slice Ax5 n cx5) n (acs L) := hV ▸ own.alloc _
                  have a7 := anew
                  have ne7 : Value.ownBlock (.slice Ax5 n cx5) ≠ some V2.heap.size := fun e => absurd (own_blk_lt own0 e) (Nat.lt_irrefl _)
                  clear anew
                  rw [hV]
                  clear hV
                  refine hK.out _ _ (HCell.out _ lo) (fun hHeld => ?_)
                  clear hK K
                  try simp only [Act.put, List.setIfInBounds_toArray, List.set_cons_zero, List.set_cons_succ]
                  refine wpAnyH_ready (rs := [10, 15]) (by kernel_rfl) (by simp) ?_
                  refine AllReadyH.cons (gof_drop rfl) (fun K hK => ?_) (AllReadyH.cons (gof_drop rfl) (fun K hK => ?_) AllReadyH.nil)
                  · refine arcs_at (by rfl) (.tmp 96) (.tmp 100) (by rfl) w4.heap.size _ n (acs L) (by rfl) own V2.heap.size 0 1 1 [.int .i64 (j : Int), .int .i64 (l : Int)] (by rfl) rfl (fun j u hj => (cell_at a7 _).trans (by rw [Nat.zero_add]; simpa using hj)) (by simp [Value.oneCell']) (by omega) lo.size ?_
                    intro v10 V4 own2 gr h4
                    have lo2 := lo.trans (grown_low gr own lo.size)
                    have gsz := gr.size
                    have own := own2
                    have lo := lo2
                    clear own2 lo2 gr h4
                    obtain ⟨Ax8, cx8, rfl⟩ := own_sliceT own
                    refine hK.out _ _ (HCell.out _ lo) (fun hHeld => ?_)
                    clear hK K
                    try simp only [Act.put, List.setIfInBounds_toArray, List.set_cons_zero, List.set_cons_succ]
                    refine wpAnyH_ready (rs := [11, 15]) (by kernel_rfl) (by simp) ?_
                    refine AllReadyH.cons (gof_drop rfl) (fun K hK => ?_) (AllReadyH.cons (gof_drop rfl) (fun K hK => ?_) AllReadyH.nil)
                    · go_simp
                      have hrd : RdV V4 V4.heap.size Ax8 (rcs (rz L ++ [((j : Int), (l : Int))])) := by have := own_rdvA own; rw [rcs_append]; exact this
                      refine (HO.out Ax8 cx8 V4 hrd).mono ?_
                      rintro e V5 ⟨A4, R4, c4, rfl, q1, rdh, q3⟩
                      have gz := lo.size
                      have gq := q3.size
                      have lo := lo.trans (q3.mono lo.size)
                      clear hrd
                      refine hK.out _ _ (HCell.out _ lo) (fun hHeld => ?_)
                      clear hK K
                      try simp only [Act.put, List.setIfInBounds_toArray, List.set_cons_zero, List.set_cons_succ]
                      (refine gheld_val (i := 12) rfl (by kernel_rfl) (by kernel_rfl) (by kernel_rfl) hHeld (by rfl) ?_; apply Exists.intro; refine ⟨fun wq hSw => ?_, ?_⟩; ((try dsimp only at hSw); obtain ⟨c1, _⟩ := hSw; go_simp; try rfl); try simp only [Act.put, List.setIfInBounds_toArray, List.set_cons_zero, List.set_cons_succ])
                      (refine gheld_val (i := 13) rfl (by kernel_rfl) (by kernel_rfl) (by kernel_rfl) hHeld (by rfl) ?_; apply Exists.intro; refine ⟨fun wq hSw => ?_, ?_⟩; ((try dsimp only at hSw); obtain ⟨c1, _⟩ := hSw; go_simp; try rfl); try simp only [Act.put, List.setIfInBounds_toArray, List.set_cons_zero, List.set_cons_succ])
                      (refine gheld_val (i := 14) rfl (by kernel_rfl) (by kernel_rfl) (by kernel_rfl) hHeld (by rfl) ?_; apply Exists.intro; refine ⟨fun wq hSw => ?_, ?_⟩; ((try dsimp only at hSw); obtain ⟨c1, _⟩ := hSw; go_simp; try rfl); try simp only [Act.put, List.setIfInBounds_toArray, List.set_cons_zero, List.set_cons_succ])
                      refine wpAnyH_ready (rs := [15]) (by kernel_rfl) (by simp) ?_
                      refine AllReadyH.cons (gof_drop rfl) (fun K hK => ?_) AllReadyH.nil
                      · go_simp
                        obtain ⟨V6, hV⟩ : ∃ V, V5.alloc (.cells #[.slice none 0 0] 24) = V := ⟨_, rfl⟩
                        have szq : V6.heap.size = V5.heap.size + 1 := by rw [← hV]; exact World.size_alloc _ _
                        have sz : V6.heap.size ≤ V5.heap.size + 1 ∧ V5.heap.size + 1 ≤ V6.heap.size := by omega
                        clear szq
                        have hb : Below V5.heap.size V5 V6 := hV ▸ one_below _ _
                        have gz := lo.size
                        have lo := lo.trans (hb.mono lo.size)
                        have anew : V6.heap[V5.heap.size]? = some (.cells #[.slice none 0 0] 24 (0, 0)) := hV ▸ World.alloc_heap_new _ _
                        have a13 := anew
                        have hfin : ∀ y, RdG (V6.setCell ⟨V5.heap.size, 0, none⟩ y) (V6.setCell ⟨V5.heap.size, 0, none⟩ y).heap.size A4 R4 := fun y => rdh.here.keep (by simp [World.setCell]; omega) (fun k hk => (Below.heap_setCell _ _ _ _ (by show k ≠ V5.heap.size; omega)).trans (hb.block k hk))
                        clear anew
                        rw [hV]
                        clear hV
                        refine hK.out _ _ (HCell.out _ lo) (fun hHeld => ?_)
                        clear hK K
                        try simp only [Act.put, List.setIfInBounds_toArray, List.set_cons_zero, List.set_cons_succ]
                        refine wpAnyH_ready (rs := [16]) (by kernel_rfl) (by simp) ?_
                        refine AllReadyH.cons (gof_drop rfl) (fun K hK => ?_) AllReadyH.nil
                        · have kf := frz_at a13 0
                          have kc : V6.cell? ⟨V5.heap.size, 0, none⟩ = some (.slice none 0 0) := (cell_at a13 0).trans rfl
                          go_simp
                          clear kf kc
                          obtain ⟨V7, hV⟩ : ∃ V, V6.setCell ⟨V5.heap.size, 0, none⟩ (.slice A4 N1 c4) = V := ⟨_, rfl⟩
                          have hfin := hfin (.slice A4 N1 c4)
                          have a13 := heap_set_same _ _ 0 (.slice A4 N1 c4) _ _ a13
                          have lo : Below w4.heap.size w4 V7 := hV ▸ lo.setCell (p := ⟨V5.heap.size, 0, none⟩) (by show w4.heap.size ≤ V5.heap.size; omega) _
                          rw [hV] at hfin a13 ⊢
                          clear hV
                          refine hK.out _ _ (HCell.out _ lo) (fun hHeld => ?_)
                          clear hK K
                          try simp only [Act.put, List.setIfInBounds_toArray, List.set_cons_zero, List.set_cons_succ]
                          (refine gheld_val (i := 17) rfl (by kernel_rfl) (by kernel_rfl) (by kernel_rfl) hHeld (by rfl) ?_; apply Exists.intro; refine ⟨fun wq hSw => ?_, ?_⟩; ((try dsimp only at hSw); obtain ⟨c1, _⟩ := hSw; go_simp; try rfl); try simp only [Act.put, List.setIfInBounds_toArray, List.set_cons_zero, List.set_cons_succ])
                          refine wpAnyH_done (by kernel_rfl) ⟨rfl, ?_⟩ _
                          exact HRest.out V7 W0.heap.size V2.heap.size V5.heap.size _ _ A4 R4 c4 lo a13 q1 hfin
                    · have own0 := own
                      go_simp
                      obtain ⟨V8, hV⟩ : ∃ V, V4.alloc (.cells #[.slice none 0 0] 24) = V := ⟨_, rfl⟩
                      have szq : V8.heap.size = V4.heap.size + 1 := by rw [← hV]; exact World.size_alloc _ _
                      have sz : V8.heap.size ≤ V4.heap.size + 1 ∧ V4.heap.size + 1 ≤ V8.heap.size := by omega
                      clear szq
                      have hb : Below V4.heap.size V4 V8 := hV ▸ one_below _ _
                      have gz := lo.size
                      have lo := lo.trans (hb.mono lo.size)
                      have anew : V8.heap[V4.heap.size]? = some (.cells #[.slice none 0 0] 24 (0, 0)) := hV ▸ World.alloc_heap_new _ _
                      have own : V8.ownsRow w4.heap.size 36 2 (.slice Ax8 (n + 1) cx8) (n + 1) (acs L ++ [.int .i64 (j : Int), .int .i64 (l : Int)]) := hV ▸ own.alloc _
                      have a13 := anew
                      have ne13 : Value.ownBlock (.slice Ax8 (n + 1) cx8) ≠ some V4.heap.size := fun e => absurd (own_blk_lt own0 e) (Nat.lt_irrefl _)
                      clear anew
                      rw [hV]
                      clear hV
                      refine hK.out _ _ (HCell.out _ lo) (fun hHeld => ?_)
                      clear hK K
                      try simp only [Act.put, List.setIfInBounds_toArray, List.set_cons_zero, List.set_cons_succ]
                      refine wpAnyH_ready (rs := [11]) (by kernel_rfl) (by simp) ?_
                      refine AllReadyH.cons (gof_drop rfl) (fun K hK => ?_) AllReadyH.nil
                      · go_simp
                        have hrd : RdV V8 V8.heap.size Ax8 (rcs (rz L ++ [((j : Int), (l : Int))])) := by have := own_rdvA own; rw [rcs_append]; exact this
                        refine (HO.out Ax8 cx8 V8 hrd).mono ?_
                        rintro e V9 ⟨A4, R4, c4, rfl, q1, rdh, q3⟩
                        have gz := lo.size
                        have gq := q3.size
                        have lo := lo.trans (q3.mono lo.size)
                        have alt := (Array.getElem?_eq_some_iff.1 a13).1
                        have a13 := (q3.block _ alt).trans a13
                        have hfin : ∀ y, RdG (V9.setCell ⟨V4.heap.size, 0, none⟩ y) (V9.setCell ⟨V4.heap.size, 0, none⟩ y).heap.size A4 R4 := fun y => rdh _ (fun k h1 h2 => Below.heap_setCell _ _ _ _ (by show k ≠ V4.heap.size; omega)) (by simp [World.setCell])
                        clear hrd
                        refine hK.out _ _ (HCell.out _ lo) (fun hHeld => ?_)
                        clear hK K
                        try simp only [Act.put, List.setIfInBounds_toArray, List.set_cons_zero, List.set_cons_succ]
                        (refine gheld_val (i := 12) rfl (by kernel_rfl) (by kernel_rfl) (by kernel_rfl) hHeld (by rfl) ?_; apply Exists.intro; refine ⟨fun wq hSw => ?_, ?_⟩; ((try dsimp only at hSw); obtain ⟨c1, _⟩ := hSw; go_simp; try rfl); try simp only [Act.put, List.setIfInBounds_toArray, List.set_cons_zero, List.set_cons_succ])
                        (refine gheld_val (i := 13) rfl (by kernel_rfl) (by kernel_rfl) (by kernel_rfl) hHeld (by rfl) ?_; apply Exists.intro; refine ⟨fun wq hSw => ?_, ?_⟩; ((try dsimp only at hSw); obtain ⟨c1, _⟩ := hSw; go_simp; try rfl); try simp only [Act.put, List.setIfInBounds_toArray, List.set_cons_zero, List.set_cons_succ])
                        (refine gheld_val (i := 14) rfl (by kernel_rfl) (by kernel_rfl) (by kernel_rfl) hHeld (by rfl) ?_; apply Exists.intro; refine ⟨fun wq hSw => ?_, ?_⟩; ((try dsimp only at hSw); obtain ⟨c1, _⟩ := hSw; go_simp; try rfl); try simp only [Act.put, List.setIfInBounds_toArray, List.set_cons_zero, List.set_cons_succ])
                        refine wpAnyH_ready (rs := [16]) (by kernel_rfl) (by simp) ?_
                        refine AllReadyH.cons (gof_drop rfl) (fun K hK => ?_) AllReadyH.nil
                        · have kf := frz_at a13 0
                          have kc : V9.cell? ⟨V4.heap.size, 0, none⟩ = some (.slice none 0 0) := (cell_at a13 0).trans rfl
                          go_simp
                          clear kf kc
                          obtain ⟨V10, hV⟩ : ∃ V, V9.setCell ⟨V4.heap.size, 0, none⟩ (.slice A4 N1 c4) = V := ⟨_, rfl⟩
                          have hfin := hfin (.slice A4 N1 c4)
                          have a13 := heap_set_same _ _ 0 (.slice A4 N1 c4) _ _ a13
                          have lo : Below w4.heap.size w4 V10 := hV ▸ lo.setCell (p := ⟨V4.heap.size, 0, none⟩) (by show w4.heap.size ≤ V4.heap.size; omega) _
                          rw [hV] at hfin a13 ⊢
                          clear hV
                          refine hK.out _ _ (HCell.out _ lo) (fun hHeld => ?_)
                          clear hK K
                          try simp only [Act.put, List.setIfInBounds_toArray, List.set_cons_zero, List.set_cons_succ]
                          (refine gheld_val (i := 17) rfl (by kernel_rfl) (by kernel_rfl) (by kernel_rfl) hHeld (by rfl) ?_; apply Exists.intro; refine ⟨fun wq hSw => ?_, ?_⟩; ((try dsimp only at hSw); obtain ⟨c1, _⟩ := hSw; go_simp; try rfl); try simp only [Act.put, List.setIfInBounds_toArray, List.set_cons_zero, List.set_cons_succ])
                          refine wpAnyH_done (by kernel_rfl) ⟨rfl, ?_⟩ _
                          exact HRest.out V10 W0.heap.size V2.heap.size V4.heap.size _ _ A4 R4 c4 lo a13 q1 hfin
                  · have own0 := own
                    go_simp
                    obtain ⟨V11, hV⟩ : ∃ V, V3.alloc (.cells #[.slice none 0 0] 24) = V := ⟨_, rfl⟩
                    have szq : V11.heap.size = V3.heap.size + 1 := by rw [← hV]; exact World.size_alloc _ _
                    have sz : V11.heap.size ≤ V3.heap.size + 1 ∧ V3.heap.size + 1 ≤ V11.heap.size := by omega
                    clear szq
                    have hb : Below V3.heap.size V3 V11 := hV ▸ one_below _ _
                    have gz := lo.size
                    have lo := lo.trans (hb.mono lo.size)
                    have anew : V11.heap[V3.heap.size]? = some (.cells #[.slice none 0 0] 24 (0, 0)) := hV ▸ World.alloc_heap_new _ _
                    have a7 := (hb.block _ (by omega)).trans a7
                    have own : V11.ownsRow w4.heap.size 36 2 (.slice Ax5 n cx5) n (acs L) := hV ▸ own.alloc _
                    have a13 := anew
                    have ne13 : Value.ownBlock (.slice Ax5 n cx5) ≠ some V3.heap.size := fun e => absurd (own_blk_lt own0 e) (Nat.lt_irrefl _)
                    clear anew
                    rw [hV]
                    clear hV
                    refine hK.out _ _ (HCell.out _ lo) (fun hHeld => ?_)
                    clear hK K
                    try simp only [Act.put, List.setIfInBounds_toArray, List.set_cons_zero, List.set_cons_succ]
                    refine wpAnyH_ready (rs := [10]) (by kernel_rfl) (by simp) ?_
                    refine AllReadyH.cons (gof_drop rfl) (fun K hK => ?_) AllReadyH.nil
                    · refine arcs_at (by rfl) (.tmp 96) (.tmp 100) (by rfl) w4.heap.size _ n (acs L) (by rfl) own V2.heap.size 0 1 1 [.int .i64 (j : Int), .int .i64 (l : Int)] (by rfl) rfl (fun j u hj => (cell_at a7 _).trans (by rw [Nat.zero_add]; simpa using hj)) (by simp [Value.oneCell']) (by omega) lo.size ?_
                      intro v10 V12 own2 gr h4
                      have lo2 := lo.trans (grown_low gr own lo.size)
                      have gsz := gr.size
                      have a13 := (gr.block _ (Array.getElem?_eq_some_iff.1 a13).1 (fun e => ne13 e.symm)).trans a13
                      have ne13 : v10.ownBlock ≠ some V3.heap.size := fun e => by rcases h4 with q | q; exact ne13 (q.symm.trans e); have : V11.heap.size = V3.heap.size := Option.some.inj (q.symm.trans e); omega
                      have own := own2
                      have lo := lo2
                      clear own2 lo2 gr h4
                      obtain ⟨Ax8, cx8, rfl⟩ := own_sliceT own
                      refine hK.out _ _ (HCell.out _ lo) (fun hHeld => ?_)
                      clear hK K
                      try simp only [Act.put, List.setIfInBounds_toArray, List.set_cons_zero, List.set_cons_succ]
                      refine wpAnyH_ready (rs := [11]) (by kernel_rfl) (by simp) ?_
                      refine AllReadyH.cons (gof_drop rfl) (fun K hK => ?_) AllReadyH.nil
                      · go_simp
                        have hrd : RdV V12 V12.heap.size Ax8 (rcs (rz L ++ [((j : Int), (l : Int))])) := by have := own_rdvA own; rw [rcs_append]; exact this
                        refine (HO.out Ax8 cx8 V12 hrd).mono ?_
                        rintro e V13 ⟨A4, R4, c4, rfl, q1, rdh, q3⟩
                        have gz := lo.size
                        have gq := q3.size
                        have lo := lo.trans (q3.mono lo.size)
                        have alt := (Array.getElem?_eq_some_iff.1 a13).1
                        have a13 := (q3.block _ alt).trans a13
                        have hfin : ∀ y, RdG (V13.setCell ⟨V3.heap.size, 0, none⟩ y) (V13.setCell ⟨V3.heap.size, 0, none⟩ y).heap.size A4 R4 := fun y => rdh _ (fun k h1 h2 => Below.heap_setCell _ _ _ _ (by show k ≠ V3.heap.size; omega)) (by simp [World.setCell])
                        clear hrd
                        refine hK.out _ _ (HCell.out _ lo) (fun hHeld => ?_)
                        clear hK K
                        try simp only [Act.put, List.setIfInBounds_toArray, List.set_cons_zero, List.set_cons_succ]
                        (refine gheld_val (i := 12) rfl (by kernel_rfl) (by kernel_rfl) (by kernel_rfl) hHeld (by rfl) ?_; apply Exists.intro; refine ⟨fun wq hSw => ?_, ?_⟩; ((try dsimp only at hSw); obtain ⟨c1, _⟩ := hSw; go_simp; try rfl); try simp only [Act.put, List.setIfInBounds_toArray, List.set_cons_zero, List.set_cons_succ])
                        (refine gheld_val (i := 13) rfl (by kernel_rfl) (by kernel_rfl) (by kernel_rfl) hHeld (by rfl) ?_; apply Exists.intro; refine ⟨fun wq hSw => ?_, ?_⟩; ((try dsimp only at hSw); obtain ⟨c1, _⟩ := hSw; go_simp; try rfl); try simp only [Act.put, List.setIfInBounds_toArray, List.set_cons_zero, List.set_cons_succ])
                        (refine gheld_val (i := 14) rfl (by kernel_rfl) (by kernel_rfl) (by kernel_rfl) hHeld (by rfl) ?_; apply Exists.intro; refine ⟨fun wq hSw => ?_, ?_⟩; ((try dsimp only at hSw); obtain ⟨c1, _⟩ := hSw; go_simp; try rfl); try simp only [Act.put, List.setIfInBounds_toArray, List.set_cons_zero, List.set_cons_succ])
                        refine wpAnyH_ready (rs := [16]) (by kernel_rfl) (by simp) ?_
                        refine AllReadyH.cons (gof_drop rfl) (fun K hK => ?_) AllReadyH.nil
                        · have kf := frz_at a13 0
                          have kc : V13.cell? ⟨V3.heap.size, 0, none⟩ = some (.slice none 0 0) := (cell_at a13 0).trans rfl
                          go_simp
                          clear kf kc
                          obtain ⟨V14, hV⟩ : ∃ V, V13.setCell ⟨V3.heap.size, 0, none⟩ (.slice A4 N1 c4) = V := ⟨_, rfl⟩
                          have hfin := hfin (.slice A4 N1 c4)
                          have a13 := heap_set_same _ _ 0 (.slice A4 N1 c4) _ _ a13
                          have lo : Below w4.heap.size w4 V14 := hV ▸ lo.setCell (p := ⟨V3.heap.size, 0, none⟩) (by show w4.heap.size ≤ V3.heap.size; omega) _
                          rw [hV] at hfin a13 ⊢
                          clear hV
                          refine hK.out _ _ (HCell.out _ lo) (fun hHeld => ?_)
                          clear hK K
                          try simp only [Act.put, List.setIfInBounds_toArray, List.set_cons_zero, List.set_cons_succ]
                          (refine gheld_val (i := 17) rfl (by kernel_rfl) (by kernel_rfl) (by kernel_rfl) hHeld (by rfl) ?_; apply Exists.intro; refine ⟨fun wq hSw => ?_, ?_⟩; ((try dsimp only at hSw); obtain ⟨c1, _⟩ := hSw; go_simp; try rfl); try simp only [Act.put, List.setIfInBounds_toArray, List.set_cons_zero, List.set_cons_succ])
                          refine wpAnyH_done (by kernel_rfl) ⟨rfl, ?_⟩ _
                          exact HRest.out V14 W0.heap.size V2.heap.size V3.heap.size _ _ A4 R4 c4 lo a13 q1 hfin
                · have own0 := own
                  go_simp
                  obtain ⟨V15, hV⟩ : ∃ V, V2.alloc (.cells #[.slice none 0 0] 24) = V := ⟨_, rfl⟩
                  have szq : V15.heap.size = V2.heap.size + 1 := by rw [← hV]; exact World.size_alloc _ _
                  have sz : V15.heap.size ≤ V2.heap.size + 1 ∧ V2.heap.size + 1 ≤ V15.heap.size := by omega
                  clear szq
                  have hb : Below V2.heap.size V2 V15 := hV ▸ one_below _ _
                  have gz := lo.size
                  have lo := lo.trans (hb.mono lo.size)
                  have anew : V15.heap[V2.heap.size]? = some (.cells #[.slice none 0 0] 24 (0, 0)) := hV ▸ World.alloc_heap_new _ _
                  have own : V15.ownsRow w4.heap.size 36 2 (.slice Ax5 n cx5) n (acs L) := hV ▸ own.alloc _
                  have a13 := anew
                  have ne13 : Value.ownBlock (.slice Ax5 n cx5) ≠ some V2.heap.size := fun e => absurd (own_blk_lt own0 e) (Nat.lt_irrefl _)
                  clear anew
                  rw [hV]
                  clear hV
                  refine hK.out _ _ (HCell.out _ lo) (fun hHeld => ?_)
                  clear hK K
                  try simp only [Act.put, List.setIfInBounds_toArray, List.set_cons_zero, List.set_cons_succ]
                  refine wpAnyH_ready (rs := [9]) (by kernel_rfl) (by simp) ?_
                  refine AllReadyH.cons (gof_drop rfl) (fun K hK => ?_) AllReadyH.nil
                  · have own0 := own
                    go_simp
                    obtain ⟨V16, hV⟩ : ∃ V, V15.alloc (.cells #[.int .i64 (j : Int), .int .i64 (l : Int)] 36) = V := ⟨_, rfl⟩
                    have szq : V16.heap.size = V15.heap.size + 1 := by rw [← hV]; exact World.size_alloc _ _
                    have sz : V16.heap.size ≤ V15.heap.size + 1 ∧ V15.heap.size + 1 ≤ V16.heap.size := by omega
                    clear szq
                    have hb : Below V15.heap.size V15 V16 := hV ▸ one_below _ _
                    have gz := lo.size
                    have lo := lo.trans (hb.mono lo.size)
                    have anew : V16.heap[V15.heap.size]? = some (.cells #[.int .i64 (j : Int), .int .i64 (l : Int)] 36 (0, 0)) := hV ▸ World.alloc_heap_new _ _
                    have a13 := (hb.block _ (by omega)).trans a13
                    have own : V16.ownsRow w4.heap.size 36 2 (.slice Ax5 n cx5) n (acs L) := hV ▸ own.alloc _
                    have a7 := anew
                    have ne7 : Value.ownBlock (.slice Ax5 n cx5) ≠ some V15.heap.size := fun e => absurd (own_blk_lt own0 e) (Nat.lt_irrefl _)
                    clear anew
                    rw [hV]
                    clear hV
                    refine hK.out _ _ (HCell.out _ lo) (fun hHeld => ?_)
                    clear hK K
                    try simp only [Act.put, List.setIfInBounds_toArray, List.set_cons_zero, List.set_cons_succ]
                    refine wpAnyH_ready (rs := [10]) (by kernel_rfl) (by simp) ?_
                    refine AllReadyH.cons (gof_drop rfl) (fun K hK => ?_) AllReadyH.nil
                    · refine arcs_at (by rfl) (.tmp 96) (.tmp 100) (by rfl) w4.heap.size _ n (acs L) (by rfl) own V15.heap.size 0 1 1 [.int .i64 (j : Int), .int .i64 (l : Int)] (by rfl) rfl (fun j u hj => (cell_at a7 _).trans (by rw [Nat.zero_add]; simpa using hj)) (by simp [Value.oneCell']) (by omega) lo.size ?_
                      intro v10 V17 own2 gr h4
                      have lo2 := lo.trans (grown_low gr own lo.size)
                      have gsz := gr.size
                      have a13 := (gr.block _ (Array.getElem?_eq_some_iff.1 a13).1 (fun e => ne13 e.symm)).trans a13
                      have ne13 : v10.ownBlock ≠ some V2.heap.size := fun e => by rcases h4 with q | q; exact ne13 (q.symm.trans e); have : V16.heap.size = V2.heap.size := Option.some.inj (q.symm.trans e); omega
                      have own := own2
                      have lo := lo2
                      clear own2 lo2 gr h4
                      obtain ⟨Ax8, cx8, rfl⟩ := own_sliceT own
                      refine hK.out _ _ (HCell.out _ lo) (fun hHeld => ?_)
                      clear hK K
                      try simp only [Act.put, List.setIfInBounds_toArray, List.set_cons_zero, List.set_cons_succ]
                      refine wpAnyH_ready (rs := [11]) (by kernel_rfl) (by simp) ?_
                      refine AllReadyH.cons (gof_drop rfl) (fun K hK => ?_) AllReadyH.nil
                      · go_simp
                        have hrd : RdV V17 V17.heap.size Ax8 (rcs (rz L ++ [((j : Int), (l : Int))])) := by have := own_rdvA own; rw [rcs_append]; exact this
                        refine (HO.out Ax8 cx8 V17 hrd).mono ?_
                        rintro e V18 ⟨A4, R4, c4, rfl, q1, rdh, q3⟩
                        have gz := lo.size
                        have gq := q3.size
                        have lo := lo.trans (q3.mono lo.size)
                        have alt := (Array.getElem?_eq_some_iff.1 a13).1
                        have a13 := (q3.block _ alt).trans a13
                        have hfin : ∀ y, RdG (V18.setCell ⟨V2.heap.size, 0, none⟩ y) (V18.setCell ⟨V2.heap.size, 0, none⟩ y).heap.size A4 R4 := fun y => rdh _ (fun k h1 h2 => Below.heap_setCell _ _ _ _ (by show k ≠ V2.heap.size; omega)) (by simp [World.setCell])
                        clear hrd
                        refine hK.out _ _ (HCell.out _ lo) (fun hHeld => ?_)
                        clear hK K
                        try simp only [Act.put, List.setIfInBounds_toArray, List.set_cons_zero, List.set_cons_succ]
                        (refine gheld_val (i := 12) rfl (by kernel_rfl) (by kernel_rfl) (by kernel_rfl) hHeld (by rfl) ?_; apply Exists.intro; refine ⟨fun wq hSw => ?_, ?_⟩; ((try dsimp only at hSw); obtain ⟨c1, _⟩ := hSw; go_simp; try rfl); try simp only [Act.put, List.setIfInBounds_toArray, List.set_cons_zero, List.set_cons_succ])
                        (refine gheld_val (i := 13) rfl (by kernel_rfl) (by kernel_rfl) (by kernel_rfl) hHeld (by rfl) ?_; apply Exists.intro; refine ⟨fun wq hSw => ?_, ?_⟩; ((try dsimp only at hSw); obtain ⟨c1, _⟩ := hSw; go_simp; try rfl); try simp only [Act.put, List.setIfInBounds_toArray, List.set_cons_zero, List.set_cons_succ])
                        (refine gheld_val (i := 14) rfl (by kernel_rfl) (by kernel_rfl) (by kernel_rfl) hHeld (by rfl) ?_; apply Exists.intro; refine ⟨fun wq hSw => ?_, ?_⟩; ((try dsimp only at hSw); obtain ⟨c1, _⟩ := hSw; go_simp; try rfl); try simp only [Act.put, List.setIfInBounds_toArray, List.set_cons_zero, List.set_cons_succ])
                        refine wpAnyH_ready (rs := [16]) (by kernel_rfl) (by simp) ?_
                        refine AllReadyH.cons (gof_drop rfl) (fun K hK => ?_) AllReadyH.nil
                        · have kf := frz_at a13 0
                          have kc : V18.cell? ⟨V2.heap.size, 0, none⟩ = some (.slice none 0 0) := (cell_at a13 0).trans rfl
                          go_simp
                          clear kf kc
                          obtain ⟨V19, hV⟩ : ∃ V, V18.setCell ⟨V2.heap.size, 0, none⟩ (.slice A4 N1 c4) = V := ⟨_, rfl⟩
                          have hfin := hfin (.slice A4 N1 c4)
                          have a13 := heap_set_same _ _ 0 (.slice A4 N1 c4) _ _ a13
                          have lo : Below w4.heap.size w4 V19 := hV ▸ lo.setCell (p := ⟨V2.heap.size, 0, none⟩) (by show w4.heap.size ≤ V2.heap.size; omega) _
                          rw [hV] at hfin a13 ⊢
                          clear hV
                          refine hK.out _ _ (HCell.out _ lo) (fun hHeld => ?_)
                          clear hK K
                          try simp only [Act.put, List.setIfInBounds_toArray, List.set_cons_zero, List.set_cons_succ]
                          (refine gheld_val (i := 17) rfl (by kernel_rfl) (by kernel_rfl) (by kernel_rfl) hHeld (by rfl) ?_; apply Exists.intro; refine ⟨fun wq hSw => ?_, ?_⟩; ((try dsimp only at hSw); obtain ⟨c1, _⟩ := hSw; go_simp; try rfl); try simp only [Act.put, List.setIfInBounds_toArray, List.set_cons_zero, List.set_cons_succ])
                          refine wpAnyH_done (by kernel_rfl) ⟨rfl, ?_⟩ _
                          exact HRest.out V19 W0.heap.size V15.heap.size V2.heap.size _ _ A4 R4 c4 lo a13 q1 hfin
              · have own0 := own
                go_simp
                obtain ⟨V20, hV⟩ : ∃ V, V1.alloc (.cells #[.int .i64 (j : Int), .int .i64 (l : Int)] 36) = V := ⟨_, rfl⟩
                have szq : V20.heap.size = V1.heap.size + 1 := by rw [← hV]; exact World.size_alloc _ _
                have sz : V20.heap.size ≤ V1.heap.size + 1 ∧ V1.heap.size + 1 ≤ V20.heap.size := by omega
                clear szq
                have hb : Below V1.heap.size V1 V20 := hV ▸ one_below _ _
                have gz := lo.size
                have lo := lo.trans (hb.mono lo.size)
                have anew : V20.heap[V1.heap.size]? = some (.cells #[.int .i64 (j : Int), .int .i64 (l : Int)] 36 (0, 0)) := hV ▸ World.alloc_heap_new _ _
                have own : V20.ownsRow w4.heap.size 36 2 (.slice (some ⟨W0.heap.size, 0, none⟩) 0 0) 0 [] := hV ▸ own.alloc _
                have a7 := anew
                have ne7 : Value.ownBlock (.slice (some ⟨W0.heap.size, 0, none⟩) 0 0) ≠ some V1.heap.size := fun e => absurd (own_blk_lt own0 e) (Nat.lt_irrefl _)
                clear anew
                rw [hV]
                clear hV
                refine hK.out _ _ (HCell.out _ lo) (fun hHeld => ?_)
                clear hK K
                try simp only [Act.put, List.setIfInBounds_toArray, List.set_cons_zero, List.set_cons_succ]
                refine wpAnyH_ready (rs := [5, 15]) (by kernel_rfl) (by simp) ?_
                refine AllReadyH.cons (gof_drop rfl) (fun K hK => ?_) (AllReadyH.cons (gof_drop rfl) (fun K hK => ?_) AllReadyH.nil)
                · refine arcs_atN (by rfl) (.tmp 94) (.tmp 95) (by rfl) w4.heap.size _ 0 [] (by rfl) own A1 n c1 (acs L) (by rfl) hcp.2 hcp.1 hacl (HArc.out _ lo) (acs_one _) (by omega) lo.size ?_
                  intro v5 V21 own2 gr h4
                  have lo2 := lo.trans (grown_low gr own lo.size)
                  have gsz := gr.size
                  have a7 := (gr.block _ (Array.getElem?_eq_some_iff.1 a7).1 (fun e => ne7 e.symm)).trans a7
                  have ne7 : v5.ownBlock ≠ some V1.heap.size := fun e => by rcases h4 with q | q; exact ne7 (q.symm.trans e); have : V20.heap.size = V1.heap.size := Option.some.inj (q.symm.trans e); omega
                  have own := own2
                  have lo := lo2
                  clear own2 lo2 gr h4
                  rw [Nat.zero_add, List.nil_append] at own
                  obtain ⟨Ax5, cx5, rfl⟩ := own_sliceT own
                  refine hK.out _ _ (HCell.out _ lo) (fun hHeld => ?_)
                  clear hK K
                  try simp only [Act.put, List.setIfInBounds_toArray, List.set_cons_zero, List.set_cons_succ]
                  refine wpAnyH_ready (rs := [10, 15]) (by kernel_rfl) (by simp) ?_
                  refine AllReadyH.cons (gof_drop rfl) (fun K hK => ?_) (AllReadyH.cons (gof_drop rfl) (fun K hK => ?_) AllReadyH.nil)
                  · refine arcs_at (by rfl) (.tmp 96) (.tmp 100) (by rfl) w4.heap.size _ n (acs L) (by rfl) own V1.heap.size 0 1 1 [.int .i64 (j : Int), .int .i64 (l : Int)] (by rfl) rfl (fun j u hj => (cell_at a7 _).trans (by rw [Nat.zero_add]; simpa using hj)) (by simp [Value.oneCell']) (by omega) lo.size ?_
                    intro v10 V22 own2 gr h4
                    have lo2 := lo.trans (grown_low gr own lo.size)
                    have gsz := gr.size
                    have own := own2
                    have lo := lo2
                    clear own2 lo2 gr h4
                    obtain ⟨Ax8, cx8, rfl⟩ := own_sliceT own
                    refine hK.out _ _ (HCell.out _ lo) (fun hHeld => ?_)
                    clear hK K
                    try simp only [Act.put, List.setIfInBounds_toArray, List.set_cons_zero, List.set_cons_succ]
                    refine wpAnyH_ready (rs := [11, 15]) (by kernel_rfl) (by simp) ?_
                    refine AllReadyH.cons (gof_drop rfl) (fun K hK => ?_) (AllReadyH.cons (gof_drop rfl) (fun K hK => ?_) AllReadyH.nil)
                    · go_simp
                      have hrd : RdV V22 V22.heap.size Ax8 (rcs (rz L ++ [((j : Int), (l : Int))])) := by have := own_rdvA own; rw [rcs_append]; exact this
                      refine (HO.out Ax8 cx8 V22 hrd).mono ?_
                      rintro e V23 ⟨A4, R4, c4, rfl, q1, rdh, q3⟩
                      have gz := lo.size
                      have gq := q3.size
                      have lo := lo.trans (q3.mono lo.size)
                      clear hrd
                      refine hK.out _ _ (HCell.out _ lo) (fun hHeld => ?_)
                      clear hK K
                      try simp only [Act.put, List.setIfInBounds_toArray, List.set_cons_zero, List.set_cons_succ]
                      (refine gheld_val (i := 12) rfl (by kernel_rfl) (by kernel_rfl) (by kernel_rfl) hHeld (by rfl) ?_; apply Exists.intro; refine ⟨fun wq hSw => ?_, ?_⟩; ((try dsimp only at hSw); obtain ⟨c1, _⟩ := hSw; go_simp; try rfl); try simp only [Act.put, List.setIfInBounds_toArray, List.set_cons_zero, List.set_cons_succ])
                      (refine gheld_val (i := 13) rfl (by kernel_rfl) (by kernel_rfl) (by kernel_rfl) hHeld (by rfl) ?_; apply Exists.intro; refine ⟨fun wq hSw => ?_, ?_⟩; ((try dsimp only at hSw); obtain ⟨c1, _⟩ := hSw; go_simp; try rfl); try simp only [Act.put, List.setIfInBounds_toArray, List.set_cons_zero, List.set_cons_succ])
                      (refine gheld_val (i := 14) rfl (by kernel_rfl) (by kernel_rfl) (by kernel_rfl) hHeld (by rfl) ?_; apply Exists.intro; refine ⟨fun wq hSw => ?_, ?_⟩; ((try dsimp only at hSw); obtain ⟨c1, _⟩ := hSw; go_simp; try rfl); try simp only [Act.put, List.setIfInBounds_toArray, List.set_cons_zero, List.set_cons_succ])
                      refine wpAnyH_ready (rs := [15]) (by kernel_rfl) (by simp) ?_
                      refine AllReadyH.cons (gof_drop rfl) (fun K hK => ?_) AllReadyH.nil
                      · go_simp
                        obtain ⟨V24, hV⟩ : ∃ V, V23.alloc (.cells #[.slice none 0 0] 24) = V := ⟨_, rfl⟩
                        have szq : V24.heap.size = V23.heap.size + 1 := by rw [← hV]; exact World.size_alloc _ _
                        have sz : V24.heap.size ≤ V23.heap.size + 1 ∧ V23.heap.size + 1 ≤ V24.heap.size := by omega
                        clear szq
                        have hb : Below V23.heap.size V23 V24 := hV ▸ one_below _ _
                        have gz := lo.size
                        have lo := lo.trans (hb.mono lo.size)
                        have anew : V24.heap[V23.heap.size]? = some (.cells #[.slice none 0 0] 24 (0, 0)) := hV ▸ World.alloc_heap_new _ _
                        have a13 := anew
                        have hfin : ∀ y, RdG (V24.setCell ⟨V23.heap.size, 0, none⟩ y) (V24.setCell ⟨V23.heap.size, 0, none⟩ y).heap.size A4 R4 := fun y => rdh.here.keep (by simp [World.setCell]; omega) (fun k hk => (Below.heap_setCell _ _ _ _ (by show k ≠ V23.heap.size; omega)).trans (hb.block k hk))
                        clear anew
                        rw [hV]
                        clear hV
                        refine hK.out _ _ (HCell.out _ lo) (fun hHeld => ?_)
                        clear hK K
                        try simp only [Act.put, List.setIfInBounds_toArray, List.set_cons_zero, List.set_cons_succ]
                        refine wpAnyH_ready (rs := [16]) (by kernel_rfl) (by simp) ?_
                        refine AllReadyH.cons (gof_drop rfl) (fun K hK => ?_) AllReadyH.nil
                        · have kf := frz_at a13 0
                          have kc : V24.cell? ⟨V23.heap.size, 0, none⟩ = some (.slice none 0 0) := (cell_at a13 0).trans rfl
                          go_simp
                          clear kf kc
                          obtain ⟨V25, hV⟩ : ∃ V, V24.setCell ⟨V23.heap.size, 0, none⟩ (.slice A4 N1 c4) = V := ⟨_, rfl⟩
                          have hfin := hfin (.slice A4 N1 c4)
                          have a13 := heap_set_same _ _ 0 (.slice A4 N1 c4) _ _ a13
                          have lo : Below w4.heap.size w4 V25 := hV ▸ lo.setCell (p := ⟨V23.heap.size, 0, none⟩) (by show w4.heap.size ≤ V23.heap.size; omega) _
                          rw [hV] at hfin a13 ⊢
                          clear hV
                          refine hK.out _ _ (HCell.out _ lo) (fun hHeld => ?_)
                          clear hK K
                          try simp only [Act.put, List.setIfInBounds_toArray, List.set_cons_zero, List.set_cons_succ]
                          (refine gheld_val (i := 17) rfl (by kernel_rfl) (by kernel_rfl) (by kernel_rfl) hHeld (by rfl) ?_; apply Exists.intro; refine ⟨fun wq hSw => ?_, ?_⟩; ((try dsimp only at hSw); obtain ⟨c1, _⟩ := hSw; go_simp; try rfl); try simp only [Act.put, List.setIfInBounds_toArray, List.set_cons_zero, List.set_cons_succ])
                          refine wpAnyH_done (by kernel_rfl) ⟨rfl, ?_⟩ _
                          exact HRest.out V25 W0.heap.size V1.heap.size V23.heap.size _ _ A4 R4 c4 lo a13 q1 hfin
                    · have own0 := own
                      go_simp
                      obtain ⟨V26, hV⟩ : ∃ V, V22.alloc (.cells #[.slice none 0 0] 24) = V := ⟨_, rfl⟩
                      have szq : V26.heap.size = V22.heap.size + 1 := by rw [← hV]; exact World.size_alloc _ _
                      have sz : V26.heap.size ≤ V22.heap.size + 1 ∧ V22.heap.size + 1 ≤ V26.heap.size := by omega
                      clear szq
                      have hb : Below V22.heap.size V22 V26 := hV ▸ one_below _ _
                      have gz := lo.size
                      have lo := lo.trans (hb.mono lo.size)
                      have anew : V26.heap[V22.heap.size]? = some (.cells #[.slice none 0 0] 24 (0, 0)) := hV ▸ World.alloc_heap_new _ _
                      have own : V26.ownsRow w4.heap.size 36 2 (.slice Ax8 (n + 1) cx8) (n + 1) (acs L ++ [.int .i64 (j : Int), .int .i64 (l : Int)]) := hV ▸ own.alloc _
                      have a13 := anew
                      have ne13 : Value.ownBlock (.slice Ax8 (n + 1) cx8) ≠ some V22.heap.size := fun e => absurd (own_blk_lt own0 e) (Nat.lt_irrefl _)
                      clear anew
                      rw [hV]
                      clear hV
                      refine hK.out _ _ (HCell.out _ lo) (fun hHeld => ?_)
                      clear hK K
                      try simp only [Act.put, List.setIfInBounds_toArray, List.set_cons_zero, List.set_cons_succ]
                      refine wpAnyH_ready (rs := [11]) (by kernel_rfl) (by simp) ?_
                      refine AllReadyH.cons (gof_drop rfl) (fun K hK => ?_) AllReadyH.nil
                      · go_simp
                        have hrd : RdV V26 V26.heap.size Ax8 (rcs (rz L ++ [((j : Int), (l : Int))])) := by have := own_rdvA own; rw [rcs_append]; exact this
                        refine (HO.out Ax8 cx8 V26 hrd).mono ?_
                        rintro e V27 ⟨A4, R4, c4, rfl, q1, rdh, q3⟩
                        have gz := lo.size
                        have gq := q3.size
                        have lo := lo.trans (q3.mono lo.size)
                        have alt := (Array.getElem?_eq_some_iff.1 a13).1
                        have a13 := (q3.block _ alt).trans a13
                        have hfin : ∀ y, RdG (V27.setCell ⟨V22.heap.size, 0, none⟩ y) (V27.setCell ⟨V22.heap.size, 0, none⟩ y).heap.size A4 R4 := fun y => rdh _ (fun k h1 h2 => Below.heap_setCell _ _ _ _ (by show k ≠ V22.heap.size; omega)) (by simp [World.setCell])
                        clear hrd
                        refine hK.out _ _ (HCell.out _ lo) (fun hHeld => ?_)
                        clear hK K
                        try simp only [Act.put, List.setIfInBounds_toArray, List.set_cons_zero, List.set_cons_succ]
                        (refine gheld_val (i := 12) rfl (by kernel_rfl) (by kernel_rfl) (by kernel_rfl) hHeld (by rfl) ?_; apply Exists.intro; refine ⟨fun wq hSw => ?_, ?_⟩; ((try dsimp only at hSw); obtain ⟨c1, _⟩ := hSw; go_simp; try rfl); try simp only [Act.put, List.setIfInBounds_toArray, List.set_cons_zero, List.set_cons_succ])
                        (refine gheld_val (i := 13) rfl (by kernel_rfl) (by kernel_rfl) (by kernel_rfl) hHeld (by rfl) ?_; apply Exists.intro; refine ⟨fun wq hSw => ?_, ?_⟩; ((try dsimp only at hSw); obtain ⟨c1, _⟩ := hSw; go_simp; try rfl); try simp only [Act.put, List.setIfInBounds_toArray, List.set_cons_zero, List.set_cons_succ])
                        (refine gheld_val (i := 14) rfl (by kernel_rfl) (by kernel_rfl) (by kernel_rfl) hHeld (by rfl) ?_; apply Exists.intro; refine ⟨fun wq hSw => ?_, ?_⟩; ((try dsimp only at hSw); obtain ⟨c1, _⟩ := hSw; go_simp; try rfl); try simp only [Act.put, List.setIfInBounds_toArray, List.set_cons_zero, List.set_cons_succ])
                        refine wpAnyH_ready (rs := [16]) (by kernel_rfl) (by simp) ?_
                        refine AllReadyH.cons (gof_drop rfl) (fun K hK => ?_) AllReadyH.nil
                        · have kf := frz_at a13 0
                          have kc : V27.cell? ⟨V22.heap.size, 0, none⟩ = some (.slice none 0 0) := (cell_at a13 0).trans rfl
                          go_simp
                          clear kf kc
                          obtain ⟨V28, hV⟩ : ∃ V, V27.setCell ⟨V22.heap.size, 0, none⟩ (.slice A4 N1 c4) = V := ⟨_, rfl⟩
                          have hfin := hfin (.slice A4 N1 c4)
                          have a13 := heap_set_same _ _ 0 (.slice A4 N1 c4) _ _ a13
                          have lo : Below w4.heap.size w4 V28 := hV ▸ lo.setCell (p := ⟨V22.heap.size, 0, none⟩) (by show w4.heap.size ≤ V22.heap.size; omega) _
                          rw [hV] at hfin a13 ⊢
                          clear hV
                          refine hK.out _ _ (HCell.out _ lo) (fun hHeld => ?_)
                          clear hK K
                          try simp only [Act.put, List.setIfInBounds_toArray, List.set_cons_zero, List.set_cons_succ]
                          (refine gheld_val (i := 17) rfl (by kernel_rfl) (by kernel_rfl) (by kernel_rfl) hHeld (by rfl) ?_; apply Exists.intro; refine ⟨fun wq hSw => ?_, ?_⟩; ((try dsimp only at hSw); obtain ⟨c1, _⟩ := hSw; go_simp; try rfl); try simp only [Act.put, List.setIfInBounds_toArray, List.set_cons_zero, List.set_cons_succ])
                          refine wpAnyH_done (by kernel_rfl) ⟨rfl, ?_⟩ _
                          exact HRest.out V28 W0.heap.size V1.heap.size V22.heap.size _ _ A4 R4 c4 lo a13 q1 hfin
                  · have own0 := own
                    go_simp
                    obtain ⟨V29, hV⟩ : ∃ V, V21.alloc (.cells #[.slice none 0 0] 24) = V := ⟨_, rfl⟩
                    have szq : V29.heap.size = V21.heap.size + 1 := by rw [← hV]; exact World.size_alloc _ _
                    have sz : V29.heap.size ≤ V21.heap.size + 1 ∧ V21.heap.size + 1 ≤ V29.heap.size := by omega
                    clear szq
                    have hb : Below V21.heap.size V21 V29 := hV ▸ one_below _ _
                    have gz := lo.size
                    have lo := lo.trans (hb.mono lo.size)
                    have anew : V29.heap[V21.heap.size]? = some (.cells #[.slice none 0 0] 24 (0, 0)) := hV ▸ World.alloc_heap_new _ _
                    have a7 := (hb.block _ (by omega)).trans a7
                    have own : V29.ownsRow w4.heap.size 36 2 (.slice Ax5 n cx5) n (acs L) := hV ▸ own.alloc _
                    have a13 := anew
                    have ne13 : Value.ownBlock (.slice Ax5 n cx5) ≠ some V21.heap.size := fun e => absurd (own_blk_lt own0 e) (Nat.lt_irrefl _)
                    clear anew
                    rw [hV]
                    clear hV
                    refine hK.out _ _ (HCell.out _ lo) (fun hHeld => ?_)
                    clear hK K
                    try simp only [Act.put, List.setIfInBounds_toArray, List.set_cons_zero, List.set_cons_succ]
                    refine wpAnyH_ready (rs := [10]) (by kernel_rfl) (by simp) ?_
                    refine AllReadyH.cons (gof_drop rfl) (fun K hK => ?_) AllReadyH.nil
                    · refine arcs_at (by rfl) (.tmp 96) (.tmp 100) (by rfl) w4.heap.size _ n (acs L) (by rfl) own V1.heap.size 0 1 1 [.int .i64 (j : Int), .int .i64 (l : Int)] (by rfl) rfl (fun j u hj => (cell_at a7 _).trans (by rw [Nat.zero_add]; simpa using hj)) (by simp [Value.oneCell']) (by omega) lo.size ?_
                      intro v10 V30 own2 gr h4
                      have lo2 := lo.trans (grown_low gr own lo.size)
                      have gsz := gr.size
                      have a13 := (gr.block _ (Array.getElem?_eq_some_iff.1 a13).1 (fun e => ne13 e.symm)).trans a13
                      have ne13 : v10.ownBlock ≠ some V21.heap.size := fun e => by rcases h4 with q | q; exact ne13 (q.symm.trans e); have : V29.heap.size = V21.heap.size := Option.some.inj (q.symm.trans e); omega
                      have own := own2
                      have lo := lo2
                      clear own2 lo2 gr h4
                      obtain ⟨Ax8, cx8, rfl⟩ := own_sliceT own
                      refine hK.out _ _ (HCell.out _ lo) (fun hHeld => ?_)
                      clear hK K
                      try simp only [Act.put, List.setIfInBounds_toArray, List.set_cons_zero, List.set_cons_succ]
                      refine wpAnyH_ready (rs := [11]) (by kernel_rfl) (by simp) ?_
                      refine AllReadyH.cons (gof_drop rfl) (fun K hK => ?_) AllReadyH.nil
                      · go_simp
                        have hrd : RdV V30 V30.heap.size Ax8 (rcs (rz L ++ [((j : Int), (l : Int))])) := by have := own_rdvA own; rw [rcs_append]; exact this
                        refine (HO.out Ax8 cx8 V30 hrd).mono ?_
                        rintro e V31 ⟨A4, R4, c4, rfl, q1, rdh, q3⟩
                        have gz := lo.size
                        have gq := q3.size
                        have lo := lo.trans (q3.mono lo.size)
                        have alt := (Array.getElem?_eq_some_iff.1 a13).1
                        have a13 := (q3.block _ alt).trans a13
                        have hfin : ∀ y, RdG (V31.setCell ⟨V21.heap.size, 0, none⟩ y) (V31.setCell ⟨V21.heap.size, 0, none⟩ y).heap.size A4 R4 := fun y => rdh _ (fun k h1 h2 => Below.heap_setCell _ _ _ _ (by show k ≠ V21.heap.size; omega)) (by simp [World.setCell])
                        clear hrd
                        refine hK.out _ _ (HCell.out _ lo) (fun hHeld => ?_)
                        clear hK K
                        try simp only [Act.put, List.setIfInBounds_toArray, List.set_cons_zero, List.set_cons_succ]
                        (refine gheld_val (i := 12) rfl (by kernel_rfl) (by kernel_rfl) (by kernel_rfl) hHeld (by rfl) ?_; apply Exists.intro; refine ⟨fun wq hSw => ?_, ?_⟩; ((try dsimp only at hSw); obtain ⟨c1, _⟩ := hSw; go_simp; try rfl); try simp only [Act.put, List.setIfInBounds_toArray, List.set_cons_zero, List.set_cons_succ])
                        (refine gheld_val (i := 13) rfl (by kernel_rfl) (by kernel_rfl) (by kernel_rfl) hHeld (by rfl) ?_; apply Exists.intro; refine ⟨fun wq hSw => ?_, ?_⟩; ((try dsimp only at hSw); obtain ⟨c1, _⟩ := hSw; go_simp; try rfl); try simp only [Act.put, List.setIfInBounds_toArray, List.set_cons_zero, List.set_cons_succ])
                        (refine gheld_val (i := 14) rfl (by kernel_rfl) (by kernel_rfl) (by kernel_rfl) hHeld (by rfl) ?_; apply Exists.intro; refine ⟨fun wq hSw => ?_, ?_⟩; ((try dsimp only at hSw); obtain ⟨c1, _⟩ := hSw; go_simp; try rfl); try simp only [Act.put, List.setIfInBounds_toArray, List.set_cons_zero, List.set_cons_succ])
                        refine wpAnyH_ready (rs := [16]) (by kernel_rfl) (by simp) ?_
                        refine AllReadyH.cons (gof_drop rfl) (fun K hK => ?_) AllReadyH.nil
                        · have kf := frz_at a13 0
                          have kc : V31.cell? ⟨V21.heap.size, 0, none⟩ = some (.slice none 0 0) := (cell_at a13 0).trans rfl
                          go_simp
                          clear kf kc
                          obtain ⟨V32, hV⟩ : ∃ V, V31.setCell ⟨V21.heap.size, 0, none⟩ (.slice A4 N1 c4) = V := ⟨_, rfl⟩
                          have hfin := hfin (.slice A4 N1 c4)
                          have a13 := heap_set_same _ _ 0 (.slice A4 N1 c4) _ _ a13
                          have lo : Below w4.heap.size w4 V32 := hV ▸ lo.setCell (p := ⟨V21.heap.size, 0, none⟩) (by show w4.heap.size ≤ V21.heap.size; omega) _
                          rw [hV] at hfin a13 ⊢
                          clear hV
                          refine hK.out _ _ (HCell.out _ lo) (fun hHeld => ?_)
                          clear hK K
                          try simp only [Act.put, List.setIfInBounds_toArray, List.set_cons_zero, List.set_cons_succ]
                          (refine gheld_val (i := 17) rfl (by kernel_rfl) (by kernel_rfl) (by kernel_rfl) hHeld (by rfl) ?_; apply Exists.intro; refine ⟨fun wq hSw => ?_, ?_⟩; ((try dsimp only at hSw); obtain ⟨c1, _⟩ := hSw; go_simp; try rfl); try simp only [Act.put, List.setIfInBounds_toArray, List.set_cons_zero, List.set_cons_succ])
                          refine wpAnyH_done (by kernel_rfl) ⟨rfl, ?_⟩ _
                          exact HRest.out V32 W0.heap.size V1.heap.size V21.heap.size _ _ A4 R4 c4 lo a13 q1 hfin
                · have own0 := own
                  go_simp
                  obtain ⟨V33, hV⟩ : ∃ V, V20.alloc (.cells #[.slice none 0 0] 24) = V := ⟨_, rfl⟩
                  have szq : V33.heap.size = V20.heap.size + 1 := by rw [← hV]; exact World.size_alloc _ _
                  have sz : V33.heap.size ≤ V20.heap.size + 1 ∧ V20.heap.size + 1 ≤ V33.heap.size := by omega
                  clear szq
                  have hb : Below V20.heap.size V20 V33 := hV ▸ one_below _ _
                  have gz := lo.size
                  have lo := lo.trans (hb.mono lo.size)
                  have anew : V33.heap[V20.heap.size]? = some (.cells #[.slice none 0 0] 24 (0, 0)) := hV ▸ World.alloc_heap_new _ _
                  have a7 := (hb.block _ (by omega)).trans a7
                  have own : V33.ownsRow w4.heap.size 36 2 (.slice (some ⟨W0.heap.size, 0, none⟩) 0 0) 0 [] := hV ▸ own.alloc _
                  have a13 := anew
                  have ne13 : Value.ownBlock (.slice (some ⟨W0.heap.size, 0, none⟩) 0 0) ≠ some V20.heap.size := fun e => absurd (own_blk_lt own0 e) (Nat.lt_irrefl _)
                  clear anew
                  rw [hV]
                  clear hV
                  refine hK.out _ _ (HCell.out _ lo) (fun hHeld => ?_)
                  clear hK K
                  try simp only [Act.put, List.setIfInBounds_toArray, List.set_cons_zero, List.set_cons_succ]
                  refine wpAnyH_ready (rs := [5]) (by kernel_rfl) (by simp) ?_
                  refine AllReadyH.cons (gof_drop rfl) (fun K hK => ?_) AllReadyH.nil
                  · refine arcs_atN (by rfl) (.tmp 94) (.tmp 95) (by rfl) w4.heap.size _ 0 [] (by rfl) own A1 n c1 (acs L) (by rfl) hcp.2 hcp.1 hacl (HArc.out _ lo) (acs_one _) (by omega) lo.size ?_
                    intro v5 V34 own2 gr h4
                    have lo2 := lo.trans (grown_low gr own lo.size)
                    have gsz := gr.size
                    have a7 := (gr.block _ (Array.getElem?_eq_some_iff.1 a7).1 (fun e => ne7 e.symm)).trans a7
                    have ne7 : v5.ownBlock ≠ some V1.heap.size := fun e => by rcases h4 with q | q; exact ne7 (q.symm.trans e); have : V33.heap.size = V1.heap.size := Option.some.inj (q.symm.trans e); omega
                    have a13 := (gr.block _ (Array.getElem?_eq_some_iff.1 a13).1 (fun e => ne13 e.symm)).trans a13
                    have ne13 : v5.ownBlock ≠ some V20.heap.size := fun e => by rcases h4 with q | q; exact ne13 (q.symm.trans e); have : V33.heap.size = V20.heap.size := Option.some.inj (q.symm.trans e); omega
                    have own := own2
                    have lo := lo2
                    clear own2 lo2 gr h4
                    rw [Nat.zero_add, List.nil_append] at own
                    obtain ⟨Ax5, cx5, rfl⟩ := own_sliceT own
                    refine hK.out _ _ (HCell.out _ lo) (fun hHeld => ?_)
                    clear hK K
                    try simp only [Act.put, List.setIfInBounds_toArray, List.set_cons_zero, List.set_cons_succ]
                    refine wpAnyH_ready (rs := [10]) (by kernel_rfl) (by simp) ?_
                    refine AllReadyH.cons (gof_drop rfl) (fun K hK => ?_) AllReadyH.nil
                    · refine arcs_at (by rfl) (.tmp 96) (.tmp 100) (by rfl) w4.heap.size _ n (acs L) (by rfl) own V1.heap.size 0 1 1 [.int .i64 (j : Int), .int .i64 (l : Int)] (by rfl) rfl (fun j u hj => (cell_at a7 _).trans (by rw [Nat.zero_add]; simpa using hj)) (by simp [Value.oneCell']) (by omega) lo.size ?_
                      intro v10 V35 own2 gr h4
                      have lo2 := lo.trans (grown_low gr own lo.size)
                      have gsz := gr.size
                      have a13 := (gr.block _ (Array.getElem?_eq_some_iff.1 a13).1 (fun e => ne13 e.symm)).trans a13
                      have ne13 : v10.ownBlock ≠ some V20.heap.size := fun e => by rcases h4 with q | q; exact ne13 (q.symm.trans e); have : V34.heap.size = V20.heap.size := Option.some.inj (q.symm.trans e); omega
                      have own := own2
                      have lo := lo2
                      clear own2 lo2 gr h4
                      obtain ⟨Ax8, cx8, rfl⟩ := own_sliceT own
                      refine hK.out _ _ (HCell.out _ lo) (fun hHeld => ?_)
                      clear hK K
                      try simp only [Act.put, List.setIfInBounds_toArray, List.set_cons_zero, List.set_cons_succ]
                      refine wpAnyH_ready (rs := [11]) (by kernel_rfl) (by simp) ?_
                      refine AllReadyH.cons (gof_drop rfl) (fun K hK => ?_) AllReadyH.nil
                      · go_simp
                        have hrd : RdV V35 V35.heap.size Ax8 (rcs (rz L ++ [((j : Int), (l : Int))])) := by have := own_rdvA own; rw [rcs_append]; exact this
                        refine (HO.out Ax8 cx8 V35 hrd).mono ?_
                        rintro e V36 ⟨A4, R4, c4, rfl, q1, rdh, q3⟩
                        have gz := lo.size
                        have gq := q3.size
                        have lo := lo.trans (q3.mono lo.size)
                        have alt := (Array.getElem?_eq_some_iff.1 a13).1
                        have a13 := (q3.block _ alt).trans a13
                        have hfin : ∀ y, RdG (V36.setCell ⟨V20.heap.size, 0, none⟩ y) (V36.setCell ⟨V20.heap.size, 0, none⟩ y).heap.size A4 R4 := fun y => rdh _ (fun k h1 h2 => Below.heap_setCell _ _ _ _ (by show k ≠ V20.heap.size; omega)) (by simp [World.setCell])
                        clear hrd
                        refine hK.out _ _ (HCell.out _ lo) (fun hHeld => ?_)
                        clear hK K
                        try simp only [Act.put, List.setIfInBounds_toArray, List.set_cons_zero, List.set_cons_succ]
                        (refine gheld_val (i := 12) rfl (by kernel_rfl) (by kernel_rfl) (by kernel_rfl) hHeld (by rfl) ?_; apply Exists.intro; refine ⟨fun wq hSw => ?_, ?_⟩; ((try dsimp only at hSw); obtain ⟨c1, _⟩ := hSw; go_simp; try rfl); try simp only [Act.put, List.setIfInBounds_toArray, List.set_cons_zero, List.set_cons_succ])
                        (refine gheld_val (i := 13) rfl (by kernel_rfl) (by kernel_rfl) (by kernel_rfl) hHeld (by rfl) ?_; apply Exists.intro; refine ⟨fun wq hSw => ?_, ?_⟩; ((try dsimp only at hSw); obtain ⟨c1, _⟩ := hSw; go_simp; try rfl); try simp only [Act.put, List.setIfInBounds_toArray, List.set_cons_zero, List.set_cons_succ])
                        (refine gheld_val (i := 14) rfl (by kernel_rfl) (by kernel_rfl) (by kernel_rfl) hHeld (by rfl) ?_; apply Exists.intro; refine ⟨fun wq hSw => ?_, ?_⟩; ((try dsimp only at hSw); obtain ⟨c1, _⟩ := hSw; go_simp; try rfl); try simp only [Act.put, List.setIfInBounds_toArray, List.set_cons_zero, List.set_cons_succ])
                        refine wpAnyH_ready (rs := [16]) (by kernel_rfl) (by simp) ?_
                        refine AllReadyH.cons (gof_drop rfl) (fun K hK => ?_) AllReadyH.nil
                        · have kf := frz_at a13 0
                          have kc : V36.cell? ⟨V20.heap.size, 0, none⟩ = some (.slice none 0 0) := (cell_at a13 0).trans rfl
                          go_simp
                          clear kf kc
                          obtain ⟨V37, hV⟩ : ∃ V, V36.setCell ⟨V20.heap.size, 0, none⟩ (.slice A4 N1 c4) = V := ⟨_, rfl⟩
                          have hfin := hfin (.slice A4 N1 c4)
                          have a13 := heap_set_same _ _ 0 (.slice A4 N1 c4) _ _ a13
                          have lo : Below w4.heap.size w4 V37 := hV ▸ lo.setCell (p := ⟨V20.heap.size, 0, none⟩) (by show w4.heap.size ≤ V20.heap.size; omega) _
                          rw [hV] at hfin a13 ⊢
                          clear hV
                          refine hK.out _ _ (HCell.out _ lo) (fun hHeld => ?_)
                          clear hK K
                          try simp only [Act.put, List.setIfInBounds_toArray, List.set_cons_zero, List.set_cons_succ]
                          (refine gheld_val (i := 17) rfl (by kernel_rfl) (by kernel_rfl) (by kernel_rfl) hHeld (by rfl) ?_; apply Exists.intro; refine ⟨fun wq hSw => ?_, ?_⟩; ((try dsimp only at hSw); obtain ⟨c1, _⟩ := hSw; go_simp; try rfl); try simp only [Act.put, List.setIfInBounds_toArray, List.set_cons_zero, List.set_cons_succ])
                          refine wpAnyH_done (by kernel_rfl) ⟨rfl, ?_⟩ _
                          exact HRest.out V37 W0.heap.size V1.heap.size V20.heap.size _ _ A4 R4 c4 lo a13 q1 hfin
              · have own0 := own
                go_simp
                obtain ⟨V38, hV⟩ : ∃ V, V1.alloc (.cells #[.slice none 0 0] 24) = V := ⟨_, rfl⟩
                have szq : V38.heap.size = V1.heap.size + 1 := by rw [← hV]; exact World.size_alloc _ _
                have sz : V38.heap.size ≤ V1.heap.size + 1 ∧ V1.heap.size + 1 ≤ V38.heap.size := by omega
                clear szq
                have hb : Below V1.heap.size V1 V38 := hV ▸ one_below _ _
                have gz := lo.size
                have lo := lo.trans (hb.mono lo.size)
                have anew : V38.heap[V1.heap.size]? = some (.cells #[.slice none 0 0] 24 (0, 0)) := hV ▸ World.alloc_heap_new _ _
                have own : V38.ownsRow w4.heap.size 36 2 (.slice (some ⟨W0.heap.size, 0, none⟩) 0 0) 0 [] := hV ▸ own.alloc _
                have a13 := anew
                have ne13 : Value.ownBlock (.slice (some ⟨W0.heap.size, 0, none⟩) 0 0) ≠ some V1.heap.size := fun e => absurd (own_blk_lt own0 e) (Nat.lt_irrefl _)
                clear anew
                rw [hV]
                clear hV
                refine hK.out _ _ (HCell.out _ lo) (fun hHeld => ?_)
                clear hK K
                try simp only [Act.put, List.setIfInBounds_toArray, List.set_cons_zero, List.set_cons_succ]
                refine wpAnyH_ready (rs := [5, 9]) (by kernel_rfl) (by simp) ?_
                refine AllReadyH.cons (gof_drop rfl) (fun K hK => ?_) (AllReadyH.cons (gof_drop rfl) (fun K hK => ?_) AllReadyH.nil)
                · refine arcs_atN (by rfl) (.tmp 94) (.tmp 95) (by rfl) w4.heap.size _ 0 [] (by rfl) own A1 n c1 (acs L) (by rfl) hcp.2 hcp.1 hacl (HArc.out _ lo) (acs_one _) (by omega) lo.size ?_
                  intro v5 V39 own2 gr h4
                  have lo2 := lo.trans (grown_low gr own lo.size)
                  have gsz := gr.size
                  have a13 := (gr.block _ (Array.getElem?_eq_some_iff.1 a13).1 (fun e => ne13 e.symm)).trans a13
                  have ne13 : v5.ownBlock ≠ some V1.heap.size := fun e => by rcases h4 with q | q; exact ne13 (q.symm.trans e); have : V38.heap.size = V1.heap.size := Option.some.inj (q.symm.trans e); omega
                  have own := own2
                  have lo := lo2
                  clear own2 lo2 gr h4
                  rw [Nat.zero_add, List.nil_append] at own
                  obtain ⟨Ax5, cx5, rfl⟩ := own_sliceT own
                  refine hK.out _ _ (HCell.out _ lo) (fun hHeld => ?_)
                  clear hK K
                  try simp only [Act.put, List.setIfInBounds_toArray, List.set_cons_zero, List.set_cons_succ]
                  refine wpAnyH_ready (rs := [9]) (by kernel_rfl) (by simp) ?_
                  refine AllReadyH.cons (gof_drop rfl) (fun K hK => ?_) AllReadyH.nil
                  · have own0 := own
                    go_simp
                    obtain ⟨V40, hV⟩ : ∃ V, V39.alloc (.cells #[.int .i64 (j : Int), .int .i64 (l : Int)] 36) = V := ⟨_, rfl⟩
                    have szq : V40.heap.size = V39.heap.size + 1 := by rw [← hV]; exact World.size_alloc _ _
                    have sz : V40.heap.size ≤ V39.heap.size + 1 ∧ V39.heap.size + 1 ≤ V40.heap.size := by omega
                    clear szq
                    have hb : Below V39.heap.size V39 V40 := hV ▸ one_below _ _
                    have gz := lo.size
                    have lo := lo.trans (hb.mono lo.size)
                    have anew : V40.heap[V39.heap.size]? = some (.cells #[.int .i64 (j : Int), .int .i64 (l : Int)] 36 (0, 0)) := hV ▸ World.alloc_heap_new _ _
                    have a13 := (hb.block _ (by omega)).trans a13
                    have own : V40.ownsRow w4.heap.size 36 2 (.slice Ax5 n cx5) n (acs L) := hV ▸ own.alloc _
                    have a7 := anew
                    have ne7 : Value.ownBlock (.slice Ax5 n cx5) ≠ some V39.heap.size := fun e => absurd (own_blk_lt own0 e) (Nat.lt_irrefl _)
                    clear anew
                    rw [hV]
                    clear hV
                    refine hK.out _ _ (HCell.out _ lo) (fun hHeld => ?_)
                    clear hK K
                    try simp only [Act.put, List.setIfInBounds_toArray, List.set_cons_zero, List.set_cons_succ]
                    refine wpAnyH_ready (rs := [10]) (by kernel_rfl) (by simp) ?_
                    refine AllReadyH.cons (gof_drop rfl) (fun K hK => ?_) AllReadyH.nil
                    · refine arcs_at (by rfl) (.tmp 96) (.tmp 100) (by rfl) w4.heap.size _ n (acs L) (by rfl) own V39.heap.size 0 1 1 [.int .i64 (j : Int), .int .i64 (l : Int)] (by rfl) rfl (fun j u hj => (cell_at a7 _).trans (by rw [Nat.zero_add]; simpa using hj)) (by simp [Value.oneCell']) (by omega) lo.size ?_
                      intro v10 V41 own2 gr h4
                      have lo2 := lo.trans (grown_low gr own lo.size)
                      have gsz := gr.size
                      have a13 := (gr.block _ (Array.getElem?_eq_some_iff.1 a13).1 (fun e => ne13 e.symm)).trans a13
                      have ne13 : v10.ownBlock ≠ some V1.heap.size := fun e => by rcases h4 with q | q; exact ne13 (q.symm.trans e); have : V40.heap.size = V1.heap.size := Option.some.inj (q.symm.trans e); omega
                      have own := own2
                      have lo := lo2
                      clear own2 lo2 gr h4
                      obtain ⟨Ax8, cx8, rfl⟩ := own_sliceT own
                      refine hK.out _ _ (HCell.out _ lo) (fun hHeld => ?_)
                      clear hK K
                      try simp only [Act.put, List.setIfInBounds_toArray, List.set_cons_zero, List.set_cons_succ]
                      refine wpAnyH_ready (rs := [11]) (by kernel_rfl) (by simp) ?_
                      refine AllReadyH.cons (gof_drop rfl) (fun K hK => ?_) AllReadyH.nil
                      · go_simp
                        have hrd : RdV V41 V41.heap.size Ax8 (rcs (rz L ++ [((j : Int), (l : Int))])) := by have := own_rdvA own; rw [rcs_append]; exact this
                        refine (HO.out Ax8 cx8 V41 hrd).mono ?_
                        rintro e V42 ⟨A4, R4, c4, rfl, q1, rdh, q3⟩
                        have gz := lo.size
                        have gq := q3.size
                        have lo := lo.trans (q3.mono lo.size)
                        have alt := (Array.getElem?_eq_some_iff.1 a13).1
                        have a13 := (q3.block _ alt).trans a13
                        have hfin : ∀ y, RdG (V42.setCell ⟨V1.heap.size, 0, none⟩ y) (V42.setCell ⟨V1.heap.size, 0, none⟩ y).heap.size A4 R4 := fun y => rdh _ (fun k h1 h2 => Below.heap_setCell _ _ _ _ (by show k ≠ V1.heap.size; omega)) (by simp [World.setCell])
                        clear hrd
                        refine hK.out _ _ (HCell.out _ lo) (fun hHeld => ?_)
                        clear hK K
                        try simp only [Act.put, List.setIfInBounds_toArray, List.set_cons_zero, List.set_cons_succ]
                        (refine gheld_val (i := 12) rfl (by kernel_rfl) (by kernel_rfl) (by kernel_rfl) hHeld (by rfl) ?_; apply Exists.intro; refine ⟨fun wq hSw => ?_, ?_⟩; ((try dsimp only at hSw); obtain ⟨c1, _⟩ := hSw; go_simp; try rfl); try simp only [Act.put, List.setIfInBounds_toArray, List.set_cons_zero, List.set_cons_succ])
                        (refine gheld_val (i := 13) rfl (by kernel_rfl) (by kernel_rfl) (by kernel_rfl) hHeld (by rfl) ?_; apply Exists.intro; refine ⟨fun wq hSw => ?_, ?_⟩; ((try dsimp only at hSw); obtain ⟨c1, _⟩ := hSw; go_simp; try rfl); try simp only [Act.put, List.setIfInBounds_toArray, List.set_cons_zero, List.set_cons_succ])
                        (refine gheld_val (i := 14) rfl (by kernel_rfl) (by kernel_rfl) (by kernel_rfl) hHeld (by rfl) ?_; apply Exists.intro; refine ⟨fun wq hSw => ?_, ?_⟩; ((try dsimp only at hSw); obtain ⟨c1, _⟩ := hSw; go_simp; try rfl); try simp only [Act.put, List.setIfInBounds_toArray, List.set_cons_zero, List.set_cons_succ])
                        refine wpAnyH_ready (rs := [16]) (by kernel_rfl) (by simp) ?_
                        refine AllReadyH.cons (gof_drop rfl) (fun K hK => ?_) AllReadyH.nil
                        · have kf := frz_at a13 0
                          have kc : V42.cell? ⟨V1.heap.size, 0, none⟩ = some (.slice none 0 0) := (cell_at a13 0).trans rfl
                          go_simp
                          clear kf kc
                          obtain ⟨V43, hV⟩ : ∃ V, V42.setCell ⟨V1.heap.size, 0, none⟩ (.slice A4 N1 c4) = V := ⟨_, rfl⟩
                          have hfin := hfin (.slice A4 N1 c4)
                          have a13 := heap_set_same _ _ 0 (.slice A4 N1 c4) _ _ a13
                          have lo : Below w4.heap.size w4 V43 := hV ▸ lo.setCell (p := ⟨V1.heap.size, 0, none⟩) (by show w4.heap.size ≤ V1.heap.size; omega) _
                          rw [hV] at hfin a13 ⊢
                          clear hV
                          refine hK.out _ _ (HCell.out _ lo) (fun hHeld => ?_)
                          clear hK K
                          try simp only [Act.put, List.setIfInBounds_toArray, List.set_cons_zero, List.set_cons_succ]
                          (refine gheld_val (i := 17) rfl (by kernel_rfl) (by kernel_rfl) (by kernel_rfl) hHeld (by rfl) ?_; apply Exists.intro; refine ⟨fun wq hSw => ?_, ?_⟩; ((try dsimp only at hSw); obtain ⟨c1, _⟩ := hSw; go_simp; try rfl); try simp only [Act.put, List.setIfInBounds_toArray, List.set_cons_zero, List.set_cons_succ])
                          refine wpAnyH_done (by kernel_rfl) ⟨rfl, ?_⟩ _
                          exact HRest.out V43 W0.heap.size V39.heap.size V1.heap.size _ _ A4 R4 c4 lo a13 q1 hfin
                · have own0 := own
                  go_simp
                  obtain ⟨V44, hV⟩ : ∃ V, V38.alloc (.cells #[.int .i64 (j : Int), .int .i64 (l : Int)] 36) = V := ⟨_, rfl⟩
                  have szq : V44.heap.size = V38.heap.size + 1 := by rw [← hV]; exact World.size_alloc _ _
                  have sz : V44.heap.size ≤ V38.heap.size + 1 ∧ V38.heap.size + 1 ≤ V44.heap.size := by omega
                  clear szq
                  have hb : Below V38.heap.size V38 V44 := hV ▸ one_below _ _
                  have gz := lo.size
                  have lo := lo.trans (hb.mono lo.size)
                  have anew : V44.heap[V38.heap.size]? = some (.cells #[.int .i64 (j : Int), .int .i64 (l : Int)] 36 (0, 0)) := hV ▸ World.alloc_heap_new _ _
                  have a13 := (hb.block _ (by omega)).trans a13
                  have own : V44.ownsRow w4.heap.size 36 2 (.slice (some ⟨W0.heap.size, 0, none⟩) 0 0) 0 [] := hV ▸ own.alloc _
                  have a7 := anew
                  have ne7 : Value.ownBlock (.slice (some ⟨W0.heap.size, 0, none⟩) 0 0) ≠ some V38.heap.size := fun e => absurd (own_blk_lt own0 e) (Nat.lt_irrefl _)
                  clear anew
                  rw [hV]
                  clear hV
                  refine hK.out _ _ (HCell.out _ lo) (fun hHeld => ?_)
                  clear hK K
                  try simp only [Act.put, List.setIfInBounds_toArray, List.set_cons_zero, List.set_cons_succ]
                  refine wpAnyH_ready (rs := [5]) (by kernel_rfl) (by simp) ?_
                  refine AllReadyH.cons (gof_drop rfl) (fun K hK => ?_) AllReadyH.nil
                  · refine arcs_atN (by rfl) (.tmp 94) (.tmp 95) (by rfl) w4.heap.size _ 0 [] (by rfl) own A1 n c1 (acs L) (by rfl) hcp.2 hcp.1 hacl (HArc.out _ lo) (acs_one _) (by omega) lo.size ?_
                    intro v5 V45 own2 gr h4
                    have lo2 := lo.trans (grown_low gr own lo.size)
                    have gsz := gr.size
                    have a7 := (gr.block _ (Array.getElem?_eq_some_iff.1 a7).1 (fun e => ne7 e.symm)).trans a7
                    have ne7 : v5.ownBlock ≠ some V38.heap.size := fun e => by rcases h4 with q | q; exact ne7 (q.symm.trans e); have : V44.heap.size = V38.heap.size := Option.some.inj (q.symm.trans e); omega
                    have a13 := (gr.block _ (Array.getElem?_eq_some_iff.1 a13).1 (fun e => ne13 e.symm)).trans a13
                    have ne13 : v5.ownBlock ≠ some V1.heap.size := fun e => by rcases h4 with q | q; exact ne13 (q.symm.trans e); have : V44.heap.size = V1.heap.size := Option.some.inj (q.symm.trans e); omega
                    have own := own2
                    have lo := lo2
                    clear own2 lo2 gr h4
                    rw [Nat.zero_add, List.nil_append] at own
                    obtain ⟨Ax5, cx5, rfl⟩ := own_sliceT own
                    refine hK.out _ _ (HCell.out _ lo) (fun hHeld => ?_)
                    clear hK K
                    try simp only [Act.put, List.setIfInBounds_toArray, List.set_cons_zero, List.set_cons_succ]
                    refine wpAnyH_ready (rs := [10]) (by kernel_rfl) (by simp) ?_
                    refine AllReadyH.cons (gof_drop rfl) (fun K hK => ?_) AllReadyH.nil
                    · refine arcs_at (by rfl) (.tmp 96) (.tmp 100) (by rfl) w4.heap.size _ n (acs L) (by rfl) own V38.heap.size 0 1 1 [.int .i64 (j : Int), .int .i64 (l : Int)] (by rfl) rfl (fun j u hj => (cell_at a7 _).trans (by rw [Nat.zero_add]; simpa using hj)) (by simp [Value.oneCell']) (by omega) lo.size ?_
                      intro v10 V46 own2 gr h4
                      have lo2 := lo.trans (grown_low gr own lo.size)
                      have gsz := gr.size
                      have a13 := (gr.block _ (Array.getElem?_eq_some_iff.1 a13).1 (fun e => ne13 e.symm)).trans a13
                      have ne13 : v10.ownBlock ≠ some V1.heap.size := fun e => by rcases h4 with q | q; exact ne13 (q.symm.trans e); have : V45.heap.size = V1.heap.size := Option.some.inj (q.symm.trans e); omega
                      have own := own2
                      have lo := lo2
                      clear own2 lo2 gr h4
                      obtain ⟨Ax8, cx8, rfl⟩ := own_sliceT own
                      refine hK.out _ _ (HCell.out _ lo) (fun hHeld => ?_)
                      clear hK K
                      try simp only [Act.put, List.setIfInBounds_toArray, List.set_cons_zero, List.set_cons_succ]
                      refine wpAnyH_ready (rs := [11]) (by kernel_rfl) (by simp) ?_
                      refine AllReadyH.cons (gof_drop rfl) (fun K hK => ?_) AllReadyH.nil
                      · go_simp
                        have hrd : RdV V46 V46.heap.size Ax8 (rcs (rz L ++ [((j : Int), (l : Int))])) := by have := own_rdvA own; rw [rcs_append]; exact this
                        refine (HO.out Ax8 cx8 V46 hrd).mono ?_
                        rintro e V47 ⟨A4, R4, c4, rfl, q1, rdh, q3⟩
                        have gz := lo.size
                        have gq := q3.size
                        have lo := lo.trans (q3.mono lo.size)
                        have alt := (Array.getElem?_eq_some_iff.1 a13).1
                        have a13 := (q3.block _ alt).trans a13
                        have hfin : ∀ y, RdG (V47.setCell ⟨V1.heap.size, 0, none⟩ y) (V47.setCell ⟨V1.heap.size, 0, none⟩ y).heap.size A4 R4 := fun y => rdh _ (fun k h1 h2 => Below.heap_setCell _ _ _ _ (by show k ≠ V1.heap.size; omega)) (by simp [World.setCell])
                        clear hrd
                        refine hK.out _ _ (HCell.out _ lo) (fun hHeld => ?_)
                        clear hK K
                        try simp only [Act.put, List.setIfInBounds_toArray, List.set_cons_zero, List.set_cons_succ]
                        (refine gheld_val (i := 12) rfl (by kernel_rfl) (by kernel_rfl) (by kernel_rfl) hHeld (by rfl) ?_; apply Exists.intro; refine ⟨fun wq hSw => ?_, ?_⟩; ((try dsimp only at hSw); obtain ⟨c1, _⟩ := hSw; go_simp; try rfl); try simp only [Act.put, List.setIfInBounds_toArray, List.set_cons_zero, List.set_cons_succ])
                        (refine gheld_val (i := 13) rfl (by kernel_rfl) (by kernel_rfl) (by kernel_rfl) hHeld (by rfl) ?_; apply Exists.intro; refine ⟨fun wq hSw => ?_, ?_⟩; ((try dsimp only at hSw); obtain ⟨c1, _⟩ := hSw; go_simp; try rfl); try simp only [Act.put, List.setIfInBounds_toArray, List.set_cons_zero, List.set_cons_succ])
                        (refine gheld_val (i := 14) rfl (by kernel_rfl) (by kernel_rfl) (by kernel_rfl) hHeld (by rfl) ?_; apply Exists.intro; refine ⟨fun wq hSw => ?_, ?_⟩; ((try dsimp only at hSw); obtain ⟨c1, _⟩ := hSw; go_simp; try rfl); try simp only [Act.put, List.setIfInBounds_toArray, List.set_cons_zero, List.set_cons_succ])
                        refine wpAnyH_ready (rs := [16]) (by kernel_rfl) (by simp) ?_
                        refine AllReadyH.cons (gof_drop rfl) (fun K hK => ?_) AllReadyH.nil
                        · have kf := frz_at a13 0
                          have kc : V47.cell? ⟨V1.heap.size, 0, none⟩ = some (.slice none 0 0) := (cell_at a13 0).trans rfl
                          go_simp
                          clear kf kc
                          obtain ⟨V48, hV⟩ : ∃ V, V47.setCell ⟨V1.heap.size, 0, none⟩ (.slice A4 N1 c4) = V := ⟨_, rfl⟩
                          have hfin := hfin (.slice A4 N1 c4)
                          have a13 := heap_set_same _ _ 0 (.slice A4 N1 c4) _ _ a13
                          have lo : Below w4.heap.size w4 V48 := hV ▸ lo.setCell (p := ⟨V1.heap.size, 0, none⟩) (by show w4.heap.size ≤ V1.heap.size; omega) _
                          rw [hV] at hfin a13 ⊢
                          clear hV
                          refine hK.out _ _ (HCell.out _ lo) (fun hHeld => ?_)
                          clear hK K
                          try simp only [Act.put, List.setIfInBounds_toArray, List.set_cons_zero, List.set_cons_succ]
                          (refine gheld_val (i := 17) rfl (by kernel_rfl) (by kernel_rfl) (by kernel_rfl) hHeld (by rfl) ?_; apply Exists.intro; refine ⟨fun wq hSw => ?_, ?_⟩; ((try dsimp only at hSw); obtain ⟨c1, _⟩ := hSw; go_simp; try rfl); try simp only [Act.put, List.setIfInBounds_toArray, List.set_cons_zero, List.set_cons_succ])
                          refine wpAnyH_done (by kernel_rfl) ⟨rfl, ?_⟩ _
                          exact HRest.out V48 W0.heap.size V38.heap.size V1.heap.size _ _ A4 R4 c4 lo a13 q1 hfin
            · go_simp
              obtain ⟨V49, hV⟩ : ∃ V, W0.alloc (.cells #[.int .i64 (j : Int), .int .i64 (l : Int)] 36) = V := ⟨_, rfl⟩
              have szq : V49.heap.size = W0.heap.size + 1 := by rw [← hV]; exact World.size_alloc _ _
              have sz : V49.heap.size ≤ W0.heap.size + 1 ∧ W0.heap.size + 1 ≤ V49.heap.size := by omega
              clear szq
              have hb : Below W0.heap.size W0 V49 := hV ▸ one_below _ _
              have gz := lo.size
              have lo := lo.trans (hb.mono lo.size)
              have anew : V49.heap[W0.heap.size]? = some (.cells #[.int .i64 (j : Int), .int .i64 (l : Int)] 36 (0, 0)) := hV ▸ World.alloc_heap_new _ _
              have a7 := anew
              clear anew
              rw [hV]
              clear hV
              refine hK.out _ _ (HCell.out _ lo) (fun hHeld => ?_)
              clear hK K
              try simp only [Act.put, List.setIfInBounds_toArray, List.set_cons_zero, List.set_cons_succ]
              refine wpAnyH_ready (rs := [3, 15]) (by kernel_rfl) (by simp) ?_
              refine AllReadyH.cons (gof_drop rfl) (fun K hK => ?_) (AllReadyH.cons (gof_drop rfl) (fun K hK => ?_) AllReadyH.nil)
              · go_simp
                obtain ⟨V50, hV⟩ : ∃ V, V49.alloc (.cells #[] 36) = V := ⟨_, rfl⟩
                have szq : V50.heap.size = V49.heap.size + 1 := by rw [← hV]; exact World.size_alloc _ _
                have sz : V50.heap.size ≤ V49.heap.size + 1 ∧ V49.heap.size + 1 ≤ V50.heap.size := by omega
                clear szq
                have hb : Below V49.heap.size V49 V50 := hV ▸ one_below _ _
                have gz := lo.size
                have lo := lo.trans (hb.mono lo.size)
                have anew : V50.heap[V49.heap.size]? = some (.cells #[] 36 (0, 0)) := hV ▸ World.alloc_heap_new _ _
                have a7 := (hb.block _ (by omega)).trans a7
                have own : V50.ownsRow w4.heap.size 36 2 (.slice (some ⟨V49.heap.size, 0, none⟩) 0 0) 0 [] := ⟨rfl, .inr ⟨V49.heap.size, 0, #[], rfl, by omega, anew, by omega, by decide, rfl, rfl⟩⟩
                have ne7 : (Value.slice (some ⟨V49.heap.size, 0, none⟩) 0 0).ownBlock ≠ some W0.heap.size := fun e => by have : V49.heap.size = W0.heap.size := Option.some.inj e; omega
                clear anew
                rw [hV]
                clear hV
                refine hK.out _ _ (HCell.out _ lo) (fun hHeld => ?_)
                clear hK K
                try simp only [Act.put, List.setIfInBounds_toArray, List.set_cons_zero, List.set_cons_succ]
                refine wpAnyH_ready (rs := [5, 15]) (by kernel_rfl) (by simp) ?_
                refine AllReadyH.cons (gof_drop rfl) (fun K hK => ?_) (AllReadyH.cons (gof_drop rfl) (fun K hK => ?_) AllReadyH.nil)
                · refine arcs_atN (by rfl) (.tmp 94) (.tmp 95) (by rfl) w4.heap.size _ 0 [] (by rfl) own A1 n c1 (acs L) (by rfl) hcp.2 hcp.1 hacl (HArc.out _ lo) (acs_one _) (by omega) lo.size ?_
                  intro v5 V51 own2 gr h4
                  have lo2 := lo.trans (grown_low gr own lo.size)
                  have gsz := gr.size
                  have a7 := (gr.block _ (Array.getElem?_eq_some_iff.1 a7).1 (fun e => ne7 e.symm)).trans a7
                  have ne7 : v5.ownBlock ≠ some W0.heap.size := fun e => by rcases h4 with q | q; exact ne7 (q.symm.trans e); have : V50.heap.size = W0.heap.size := Option.some.inj (q.symm.trans e); omega
                  have own := own2
                  have lo := lo2
                  clear own2 lo2 gr h4
                  rw [Nat.zero_add, List.nil_append] at own
                  obtain ⟨Ax5, cx5, rfl⟩ := own_sliceT own
                  refine hK.out _ _ (HCell.out _ lo) (fun hHeld => ?_)
                  clear hK K
                  try simp only [Act.put, List.setIfInBounds_toArray, List.set_cons_zero, List.set_cons_succ]
                  refine wpAnyH_ready (rs := [10, 15]) (by kernel_rfl) (by simp) ?_
                  refine AllReadyH.cons (gof_drop rfl) (fun K hK => ?_) (AllReadyH.cons (gof_drop rfl) (fun K hK => ?_) AllReadyH.nil)
                  · refine arcs_at (by rfl) (.tmp 96) (.tmp 100) (by rfl) w4.heap.size _ n (acs L) (by rfl) own W0.heap.size 0 1 1 [.int .i64 (j : Int), .int .i64 (l : Int)] (by rfl) rfl (fun j u hj => (cell_at a7 _).trans (by rw [Nat.zero_add]; simpa using hj)) (by simp [Value.oneCell']) (by omega) lo.size ?_
                    intro v10 V52 own2 gr h4
                    have lo2 := lo.trans (grown_low gr own lo.size)
                    have gsz := gr.size
                    have own := own2
                    have lo := lo2
                    clear own2 lo2 gr h4
                    obtain ⟨Ax8, cx8, rfl⟩ := own_sliceT own
                    refine hK.out _ _ (HCell.out _ lo) (fun hHeld => ?_)
                    clear hK K
                    try simp only [Act.put, List.setIfInBounds_toArray, List.set_cons_zero, List.set_cons_succ]
                    refine wpAnyH_ready (rs := [11, 15]) (by kernel_rfl) (by simp) ?_
                    refine AllReadyH.cons (gof_drop rfl) (fun K hK => ?_) (AllReadyH.cons (gof_drop rfl) (fun K hK => ?_) AllReadyH.nil)
                    · go_simp
                      have hrd : RdV V52 V52.heap.size Ax8 (rcs (rz L ++ [((j : Int), (l : Int))])) := by have := own_rdvA own; rw [rcs_append]; exact this
                      refine (HO.out Ax8 cx8 V52 hrd).mono ?_
                      rintro e V53 ⟨A4, R4, c4, rfl, q1, rdh, q3⟩
                      have gz := lo.size
                      have gq := q3.size
                      have lo := lo.trans (q3.mono lo.size)
                      clear hrd
                      refine hK.out _ _ (HCell.out _ lo) (fun hHeld => ?_)
                      clear hK K
                      try simp only [Act.put, List.setIfInBounds_toArray, List.set_cons_zero, List.set_cons_succ]
                      (refine gheld_val (i := 12) rfl (by kernel_rfl) (by kernel_rfl) (by kernel_rfl) hHeld (by rfl) ?_; apply Exists.intro; refine ⟨fun wq hSw => ?_, ?_⟩; ((try dsimp only at hSw); obtain ⟨c1, _⟩ := hSw; go_simp; try rfl); try simp only [Act.put, List.setIfInBounds_toArray, List.set_cons_zero, List.set_cons_succ])
                      (refine gheld_val (i := 13) rfl (by kernel_rfl) (by kernel_rfl) (by kernel_rfl) hHeld (by rfl) ?_; apply Exists.intro; refine ⟨fun wq hSw => ?_, ?_⟩; ((try dsimp only at hSw); obtain ⟨c1, _⟩ := hSw; go_simp; try rfl); try simp only [Act.put, List.setIfInBounds_toArray, List.set_cons_zero, List.set_cons_succ])
                      (refine gheld_val (i := 14) rfl (by kernel_rfl) (by kernel_rfl) (by kernel_rfl) hHeld (by rfl) ?_; apply Exists.intro; refine ⟨fun wq hSw => ?_, ?_⟩; ((try dsimp only at hSw); obtain ⟨c1, _⟩ := hSw; go_simp; try rfl); try simp only [Act.put, List.setIfInBounds_toArray, List.set_cons_zero, List.set_cons_succ])
                      refine wpAnyH_ready (rs := [15]) (by kernel_rfl) (by simp) ?_
                      refine AllReadyH.cons (gof_drop rfl) (fun K hK => ?_) AllReadyH.nil
                      · go_simp
                        obtain ⟨V54, hV⟩ : ∃ V, V53.alloc (.cells #[.slice none 0 0] 24) = V := ⟨_, rfl⟩
                        have szq : V54.heap.size = V53.heap.size + 1 := by rw [← hV]; exact World.size_alloc _ _
                        have sz : V54.heap.size ≤ V53.heap.size + 1 ∧ V53.heap.size + 1 ≤ V54.heap.size := by omega
                        clear szq
                        have hb : Below V53.heap.size V53 V54 := hV ▸ one_below _ _
                        have gz := lo.size
                        have lo := lo.trans (hb.mono lo.size)
                        have anew : V54.heap[V53.heap.size]? = some (.cells #[.slice none 0 0] 24 (0, 0)) := hV ▸ World.alloc_heap_new _ _
                        have a13 := anew
                        have hfin : ∀ y, RdG (V54.setCell ⟨V53.heap.size, 0, none⟩ y) (V54.setCell ⟨V53.heap.size, 0, none⟩ y).heap.size A4 R4 := fun y => rdh.here.keep (by simp [World.setCell]; omega) (fun k hk => (Below.heap_setCell _ _ _ _ (by show k ≠ V53.heap.size; omega)).trans (hb.block k hk))
                        clear anew
                        rw [hV]
                        clear hV
                        refine hK.out _ _ (HCell.out _ lo) (fun hHeld => ?_)
                        clear hK K
                        try simp only [Act.put, List.setIfInBounds_toArray, List.set_cons_zero, List.set_cons_succ]
                        refine wpAnyH_ready (rs := [16]) (by kernel_rfl) (by simp) ?_
                        refine AllReadyH.cons (gof_drop rfl) (fun K hK => ?_) AllReadyH.nil
                        · have kf := frz_at a13 0
                          have kc : V54.cell? ⟨V53.heap.size, 0, none⟩ = some (.slice none 0 0) := (cell_at a13 0).trans rfl
                          go_simp
                          clear kf kc
                          obtain ⟨V55, hV⟩ : ∃ V, V54.setCell ⟨V53.heap.size, 0, none⟩ (.slice A4 N1 c4) = V := ⟨_, rfl⟩
                          have hfin := hfin (.slice A4 N1 c4)
                          have a13 := heap_set_same _ _ 0 (.slice A4 N1 c4) _ _ a13
                          have lo : Below w4.heap.size w4 V55 := hV ▸ lo.setCell (p := ⟨V53.heap.size, 0, none⟩) (by show w4.heap.size ≤ V53.heap.size; omega) _
                          rw [hV] at hfin a13 ⊢
                          clear hV
                          refine hK.out _ _ (HCell.out _ lo) (fun hHeld => ?_)
                          clear hK K
                          try simp only [Act.put, List.setIfInBounds_toArray, List.set_cons_zero, List.set_cons_succ]
                          (refine gheld_val (i := 17) rfl (by kernel_rfl) (by kernel_rfl) (by kernel_rfl) hHeld (by rfl) ?_; apply Exists.intro; refine ⟨fun wq hSw => ?_, ?_⟩; ((try dsimp only at hSw); obtain ⟨c1, _⟩ := hSw; go_simp; try rfl); try simp only [Act.put, List.setIfInBounds_toArray, List.set_cons_zero, List.set_cons_succ])
                          refine wpAnyH_done (by kernel_rfl) ⟨rfl, ?_⟩ _
                          exact HRest.out V55 V49.heap.size W0.heap.size V53.heap.size _ _ A4 R4 c4 lo a13 q1 hfin
                    · have own0 := own
                      go_simp
                      obtain ⟨V56, hV⟩ : ∃ V, V52.alloc (.cells #[.slice none 0 0] 24) = V := ⟨_, rfl⟩
                      have szq : V56.heap.size = V52.heap.size + 1 := by rw [← hV]; exact World.size_alloc _ _
                      have sz : V56.heap.size ≤ V52.heap.size + 1 ∧ V52.heap.size + 1 ≤ V56.heap.size := by omega
                      clear szq
                      have hb : Below V52.heap.size V52 V56 := hV ▸ one_below _ _
                      have gz := lo.size
                      have lo := lo.trans (hb.mono lo.size)
                      have anew : V56.heap[V52.heap.size]? = some (.cells #[.slice none 0 0] 24 (0, 0)) := hV ▸ World.alloc_heap_new _ _
                      have own : V56.ownsRow w4.heap.size 36 2 (.slice Ax8 (n + 1) cx8) (n + 1) (acs L ++ [.int .i64 (j : Int), .int .i64 (l : Int)]) := hV ▸ own.alloc _
                      have a13 := anew
                      have ne13 : Value.ownBlock (.slice Ax8 (n + 1) cx8) ≠ some V52.heap.size := fun e => absurd (own_blk_lt own0 e) (Nat.lt_irrefl _)
                      clear anew
                      rw [hV]
                      clear hV
                      refine hK.out _ _ (HCell.out _ lo) (fun hHeld => ?_)
                      clear hK K
                      try simp only [Act.put, List.setIfInBounds_toArray, List.set_cons_zero, List.set_cons_succ]
                      refine wpAnyH_ready (rs := [11]) (by kernel_rfl) (by simp) ?_
                      refine AllReadyH.cons (gof_drop rfl) (fun K hK => ?_) AllReadyH.nil
                      · go_simp
                        have hrd : RdV V56 V56.heap.size Ax8 (rcs (rz L ++ [((j : Int), (l : Int))])) := by have := own_rdvA own; rw [rcs_append]; exact this
                        refine (HO.out Ax8 cx8 V56 hrd).mono ?_
                        rintro e V57 ⟨A4, R4, c4, rfl, q1, rdh, q3⟩
                        have gz := lo.size
                        have gq := q3.size
                        have lo := lo.trans (q3.mono lo.size)
                        have alt := (Array.getElem?_eq_some_iff.1 a13).1
                        have a13 := (q3.block _ alt).trans a13
                        have hfin : ∀ y, RdG (V57.setCell ⟨V52.heap.size, 0, none⟩ y) (V57.setCell ⟨V52.heap.size, 0, none⟩ y).heap.size A4 R4 := fun y => rdh _ (fun k h1 h2 => Below.heap_setCell _ _ _ _ (by show k ≠ V52.heap.size; omega)) (by simp [World.setCell])
                        clear hrd
                        refine hK.out _ _ (HCell.out _ lo) (fun hHeld => ?_)
                        clear hK K
                        try simp only [Act.put, List.setIfInBounds_toArray, List.set_cons_zero, List.set_cons_succ]
                        (refine gheld_val (i := 12) rfl (by kernel_rfl) (by kernel_rfl) (by kernel_rfl) hHeld (by rfl) ?_; apply Exists.intro; refine ⟨fun wq hSw => ?_, ?_⟩; ((try dsimp only at hSw); obtain ⟨c1, _⟩ := hSw; go_simp; try rfl); try simp only [Act.put, List.setIfInBounds_toArray, List.set_cons_zero, List.set_cons_succ])
                        (refine gheld_val (i := 13) rfl (by kernel_rfl) (by kernel_rfl) (by kernel_rfl) hHeld (by rfl) ?_; apply Exists.intro; refine ⟨fun wq hSw => ?_, ?_⟩; ((try dsimp only at hSw); obtain ⟨c1, _⟩ := hSw; go_simp; try rfl); try simp only [Act.put, List.setIfInBounds_toArray, List.set_cons_zero, List.set_cons_succ])
                        (refine gheld_val (i := 14) rfl (by kernel_rfl) (by kernel_rfl) (by kernel_rfl) hHeld (by rfl) ?_; apply Exists.intro; refine ⟨fun wq hSw => ?_, ?_⟩; ((try dsimp only at hSw); obtain ⟨c1, _⟩ := hSw; go_simp; try rfl); try simp only [Act.put, List.setIfInBounds_toArray, List.set_cons_zero, List.set_cons_succ])
                        refine wpAnyH_ready (rs := [16]) (by kernel_rfl) (by simp) ?_
                        refine AllReadyH.cons (gof_drop rfl) (fun K hK => ?_) AllReadyH.nil
                        · have kf := frz_at a13 0
                          have kc : V57.cell? ⟨V52.heap.size, 0, none⟩ = some (.slice none 0 0) := (cell_at a13 0).trans rfl
                          go_simp
                          clear kf kc
                          obtain ⟨V58, hV⟩ : ∃ V, V57.setCell ⟨V52.heap.size, 0, none⟩ (.slice A4 N1 c4) = V := ⟨_, rfl⟩
                          have hfin := hfin (.slice A4 N1 c4)
                          have a13 := heap_set_same _ _ 0 (.slice A4 N1 c4) _ _ a13
                          have lo : Below w4.heap.size w4 V58 := hV ▸ lo.setCell (p := ⟨V52.heap.size, 0, none⟩) (by show w4.heap.size ≤ V52.heap.size; omega) _
                          rw [hV] at hfin a13 ⊢
                          clear hV
                          refine hK.out _ _ (HCell.out _ lo) (fun hHeld => ?_)
                          clear hK K
                          try simp only [Act.put, List.setIfInBounds_toArray, List.set_cons_zero, List.set_cons_succ]
                          (refine gheld_val (i := 17) rfl (by kernel_rfl) (by kernel_rfl) (by kernel_rfl) hHeld (by rfl) ?_; apply Exists.intro; refine ⟨fun wq hSw => ?_, ?_⟩; ((try dsimp only at hSw); obtain ⟨c1, _⟩ := hSw; go_simp; try rfl); try simp only [Act.put, List.setIfInBounds_toArray, List.set_cons_zero, List.set_cons_succ])
                          refine wpAnyH_done (by kernel_rfl) ⟨rfl, ?_⟩ _
                          exact HRest.out V58 V49.heap.size W0.heap.size V52.heap.size _ _ A4 R4 c4 lo a13 q1 hfin
                  · have own0 := own
                    go_simp
                    obtain ⟨V59, hV⟩ : ∃ V, V51.alloc (.cells #[.slice none 0 0] 24) = V := ⟨_, rfl⟩
                    have szq : V59.heap.size = V51.heap.size + 1 := by rw [← hV]; exact World.size_alloc _ _
                    have sz : V59.heap.size ≤ V51.heap.size + 1 ∧ V51.heap.size + 1 ≤ V59.heap.size := by omega
                    clear szq
                    have hb : Below V51.heap.size V51 V59 := hV ▸ one_below _ _
                    have gz := lo.size
                    have lo := lo.trans (hb.mono lo.size)
                    have anew : V59.heap[V51.heap.size]? = some (.cells #[.slice none 0 0] 24 (0, 0)) := hV ▸ World.alloc_heap_new _ _
                    have a7 := (hb.block _ (by omega)).trans a7
                    have own : V59.ownsRow w4.heap.size 36 2 (.slice Ax5 n cx5) n (acs L) := hV ▸ own.alloc _
                    have a13 := anew
                    have ne13 : Value.ownBlock (.slice Ax5 n cx5) ≠ some V51.heap.size := fun e => absurd (own_blk_lt own0 e) (Nat.lt_irrefl _)
                    clear anew
                    rw [hV]
                    clear hV
                    refine hK.out _ _ (HCell.out _ lo) (fun hHeld => ?_)
                    clear hK K
                    try simp only [Act.put, List.setIfInBounds_toArray, List.set_cons_zero, List.set_cons_succ]
                    refine wpAnyH_ready (rs := [10]) (by kernel_rfl) (by simp) ?_
                    refine AllReadyH.cons (gof_drop rfl) (fun K hK => ?_) AllReadyH.nil
                    · refine arcs_at (by rfl) (.tmp 96) (.tmp 100) (by rfl) w4.heap.size _ n (acs L) (by rfl) own W0.heap.size 0 1 1 [.int .i64 (j : Int), .int .i64 (l : Int)] (by rfl) rfl (fun j u hj => (cell_at a7 _).trans (by rw [Nat.zero_add]; simpa using hj)) (by simp [Value.oneCell']) (by omega) lo.size ?_
                      intro v10 V60 own2 gr h4
                      have lo2 := lo.trans (grown_low gr own lo.size)
                      have gsz := gr.size
                      have a13 := (gr.block _ (Array.getElem?_eq_some_iff.1 a13).1 (fun e => ne13 e.symm)).trans a13
                      have ne13 : v10.ownBlock ≠ some V51.heap.size := fun e => by rcases h4 with q | q; exact ne13 (q.symm.trans e); have : V59.heap.size = V51.heap.size := Option.some.inj (q.symm.trans e); omega
                      have own := own2
                      have lo := lo2
                      clear own2 lo2 gr h4
                      obtain ⟨Ax8, cx8, rfl⟩ := own_sliceT own
                      refine hK.out _ _ (HCell.out _ lo) (fun hHeld => ?_)
                      clear hK K
                      try simp only [Act.put, List.setIfInBounds_toArray, List.set_cons_zero, List.set_cons_succ]
                      refine wpAnyH_ready (rs := [11]) (by kernel_rfl) (by simp) ?_
                      refine AllReadyH.cons (gof_drop rfl) (fun K hK => ?_) AllReadyH.nil
                      · go_simp
                        have hrd : RdV V60 V60.heap.size Ax8 (rcs (rz L ++ [((j : Int), (l : Int))])) := by have := own_rdvA own; rw [rcs_append]; exact this
                        refine (HO.out Ax8 cx8 V60 hrd).mono ?_
                        rintro e V61 ⟨A4, R4, c4, rfl, q1, rdh, q3⟩
                        have gz := lo.size
                        have gq := q3.size
                        have lo := lo.trans (q3.mono lo.size)
                        have alt := (Array.getElem?_eq_some_iff.1 a13).1
                        have a13 := (q3.block _ alt).trans a13
                        have hfin : ∀ y, RdG (V61.setCell ⟨V51.heap.size, 0, none⟩ y) (V61.setCell ⟨V51.heap.size, 0, none⟩ y).heap.size A4 R4 := fun y => rdh _ (fun k h1 h2 => Below.heap_setCell _ _ _ _ (by show k ≠ V51.heap.size; omega)) (by simp [World.setCell])
                        clear hrd
                        refine hK.out _ _ (HCell.out _ lo) (fun hHeld => ?_)
                        clear hK K
                        try simp only [Act.put, List.setIfInBounds_toArray, List.set_cons_zero, List.set_cons_succ]
                        (refine gheld_val (i := 12) rfl (by kernel_rfl) (by kernel_rfl) (by kernel_rfl) hHeld (by rfl) ?_; apply Exists.intro; refine ⟨fun wq hSw => ?_, ?_⟩; ((try dsimp only at hSw); obtain ⟨c1, _⟩ := hSw; go_simp; try rfl); try simp only [Act.put, List.setIfInBounds_toArray, List.set_cons_zero, List.set_cons_succ])
                        (refine gheld_val (i := 13) rfl (by kernel_rfl) (by kernel_rfl) (by kernel_rfl) hHeld (by rfl) ?_; apply Exists.intro; refine ⟨fun wq hSw => ?_, ?_⟩; ((try dsimp only at hSw); obtain ⟨c1, _⟩ := hSw; go_simp; try rfl); try simp only [Act.put, List.setIfInBounds_toArray, List.set_cons_zero, List.set_cons_succ])
                        (refine gheld_val (i := 14) rfl (by kernel_rfl) (by kernel_rfl) (by kernel_rfl) hHeld (by rfl) ?_; apply Exists.intro; refine ⟨fun wq hSw => ?_, ?_⟩; ((try dsimp only at hSw); obtain ⟨c1, _⟩ := hSw; go_simp; try rfl); try simp only [Act.put, List.setIfInBounds_toArray, List.set_cons_zero, List.set_cons_succ])
                        refine wpAnyH_ready (rs := [16]) (by kernel_rfl) (by simp) ?_
                        refine AllReadyH.cons (gof_drop rfl) (fun K hK => ?_) AllReadyH.nil
                        · have kf := frz_at a13 0
                          have kc : V61.cell? ⟨V51.heap.size, 0, none⟩ = some (.slice none 0 0) := (cell_at a13 0).trans rfl
                          go_simp
                          clear kf kc
                          obtain ⟨V62, hV⟩ : ∃ V, V61.setCell ⟨V51.heap.size, 0, none⟩ (.slice A4 N1 c4) = V := ⟨_, rfl⟩
                          have hfin := hfin (.slice A4 N1 c4)
                          have a13 := heap_set_same _ _ 0 (.slice A4 N1 c4) _ _ a13
                          have lo : Below w4.heap.size w4 V62 := hV ▸ lo.setCell (p := ⟨V51.heap.size, 0, none⟩) (by show w4.heap.size ≤ V51.heap.size; omega) _
                          rw [hV] at hfin a13 ⊢
                          clear hV
                          refine hK.out _ _ (HCell.out _ lo) (fun hHeld => ?_)
                          clear hK K
                          try simp only [Act.put, List.setIfInBounds_toArray, List.set_cons_zero, List.set_cons_succ]
                          (refine gheld_val (i := 17) rfl (by kernel_rfl) (by kernel_rfl) (by kernel_rfl) hHeld (by rfl) ?_; apply Exists.intro; refine ⟨fun wq hSw => ?_, ?_⟩; ((try dsimp only at hSw); obtain ⟨c1, _⟩ := hSw; go_simp; try rfl); try simp only [Act.put, List.setIfInBounds_toArray, List.set_cons_zero, List.set_cons_succ])
                          refine wpAnyH_done (by kernel_rfl) ⟨rfl, ?_⟩ _
                          exact HRest.out V62 V49.heap.size W0.heap.size V51.heap.size _ _ A4 R4 c4 lo a13 q1 hfin
                · have own0 := own
                  go_simp
                  obtain ⟨V63, hV⟩ : ∃ V, V50.alloc (.cells #[.slice none 0 0] 24) = V := ⟨_, rfl⟩
                  have szq : V63.heap.size = V50.heap.size + 1 := by rw [← hV]; exact World.size_alloc _ _
                  have sz : V63.heap.size ≤ V50.heap.size + 1 ∧ V50.heap.size + 1 ≤ V63.heap.size := by omega
                  clear szq
                  have hb : Below V50.heap.size V50 V63 := hV ▸ one_below _ _
                  have gz := lo.size
                  have lo := lo.trans (hb.mono lo.size)
                  have anew : V63.heap[V50.heap.size]? = some (.cells #[.slice none 0 0] 24 (0, 0)) := hV ▸ World.alloc_heap_new _ _
                  have a7 := (hb.block _ (by omega)).trans a7
                  have own : V63.ownsRow w4.heap.size 36 2 (.slice (some ⟨V49.heap.size, 0, none⟩) 0 0) 0 [] := hV ▸ own.alloc _
                  have a13 := anew
                  have ne13 : Value.ownBlock (.slice (some ⟨V49.heap.size, 0, none⟩) 0 0) ≠ some V50.heap.size := fun e => absurd (own_blk_lt own0 e) (Nat.lt_irrefl _)
                  clear anew
                  rw [hV]
                  clear hV
                  refine hK.out _ _ (HCell.out _ lo) (fun hHeld => ?_)
                  clear hK K
                  try simp only [Act.put, List.setIfInBounds_toArray, List.set_cons_zero, List.set_cons_succ]
                  refine wpAnyH_ready (rs := [5]) (by kernel_rfl) (by simp) ?_
                  refine AllReadyH.cons (gof_drop rfl) (fun K hK => ?_) AllReadyH.nil
                  · refine arcs_atN (by rfl) (.tmp 94) (.tmp 95) (by rfl) w4.heap.size _ 0 [] (by rfl) own A1 n c1 (acs L) (by rfl) hcp.2 hcp.1 hacl (HArc.out _ lo) (acs_one _) (by omega) lo.size ?_
                    intro v5 V64 own2 gr h4
                    have lo2 := lo.trans (grown_low gr own lo.size)
                    have gsz := gr.size
                    have a7 := (gr.block _ (Array.getElem?_eq_some_iff.1 a7).1 (fun e => ne7 e.symm)).trans a7
                    have ne7 : v5.ownBlock ≠ some W0.heap.size := fun e => by rcases h4 with q | q; exact ne7 (q.symm.trans e); have : V63.heap.size = W0.heap.size := Option.some.inj (q.symm.trans e); omega
                    have a13 := (gr.block _ (Array.getElem?_eq_some_iff.1 a13).1 (fun e => ne13 e.symm)).trans a13
                    have ne13 : v5.ownBlock ≠ some V50.heap.size := fun e => by rcases h4 with q | q; exact ne13 (q.symm.trans e); have : V63.heap.size = V50.heap.size := Option.some.inj (q.symm.trans e); omega
                    have own := own2
                    have lo := lo2
                    clear own2 lo2 gr h4
                    rw [Nat.zero_add, List.nil_append] at own
                    obtain ⟨Ax5, cx5, rfl⟩ := own_sliceT own
                    refine hK.out _ _ (HCell.out _ lo) (fun hHeld => ?_)
                    clear hK K
                    try simp only [Act.put, List.setIfInBounds_toArray, List.set_cons_zero, List.set_cons_succ]
                    refine wpAnyH_ready (rs := [10]) (by kernel_rfl) (by simp) ?_
                    refine AllReadyH.cons (gof_drop rfl) (fun K hK => ?_) AllReadyH.nil
                    · refine arcs_at (by rfl) (.tmp 96) (.tmp 100) (by rfl) w4.heap.size _ n (acs L) (by rfl) own W0.heap.size 0 1 1 [.int .i64 (j : Int), .int .i64 (l : Int)] (by rfl) rfl (fun j u hj => (cell_at a7 _).trans (by rw [Nat.zero_add]; simpa using hj)) (by simp [Value.oneCell']) (by omega) lo.size ?_
                      intro v10 V65 own2 gr h4
                      have lo2 := lo.trans (grown_low gr own lo.size)
                      have gsz := gr.size
                      have a13 := (gr.block _ (Array.getElem?_eq_some_iff.1 a13).1 (fun e => ne13 e.symm)).trans a13
                      have ne13 : v10.ownBlock ≠ some V50.heap.size := fun e => by rcases h4 with q | q; exact ne13 (q.symm.trans e); have : V64.heap.size = V50.heap.size := Option.some.inj (q.symm.trans e); omega
                      have own := own2
                      have lo := lo2
                      clear own2 lo2 gr h4
                      obtain ⟨Ax8, cx8, rfl⟩ := own_sliceT own
                      refine hK.out _ _ (HCell.out _ lo) (fun hHeld => ?_)
                      clear hK K
                      try simp only [Act.put, List.setIfInBounds_toArray, List.set_cons_zero, List.set_cons_succ]
                      refine wpAnyH_ready (rs := [11]) (by kernel_rfl) (by simp) ?_
                      refine AllReadyH.cons (gof_drop rfl) (fun K hK => ?_) AllReadyH.nil
                      · go_simp
                        have hrd : RdV V65 V65.heap.size Ax8 (rcs (rz L ++ [((j : Int), (l : Int))])) := by have := own_rdvA own; rw [rcs_append]; exact this
                        refine (HO.out Ax8 cx8 V65 hrd).mono ?_
                        rintro e V66 ⟨A4, R4, c4, rfl, q1, rdh, q3⟩
                        have gz := lo.size
                        have gq := q3.size
                        have lo := lo.trans (q3.mono lo.size)
                        have alt := (Array.getElem?_eq_some_iff.1 a13).1
                        have a13 := (q3.block _ alt).trans a13
                        have hfin : ∀ y, RdG (V66.setCell ⟨V50.heap.size, 0, none⟩ y) (V66.setCell ⟨V50.heap.size, 0, none⟩ y).heap.size A4 R4 := fun y => rdh _ (fun k h1 h2 => Below.heap_setCell _ _ _ _ (by show k ≠ V50.heap.size; omega)) (by simp [World.setCell])
                        clear hrd
                        refine hK.out _ _ (HCell.out _ lo) (fun hHeld => ?_)
                        clear hK K
                        try simp only [Act.put, List.setIfInBounds_toArray, List.set_cons_zero, List.set_cons_succ]
                        (refine gheld_val (i := 12) rfl (by kernel_rfl) (by kernel_rfl) (by kernel_rfl) hHeld (by rfl) ?_; apply Exists.intro; refine ⟨fun wq hSw => ?_, ?_⟩; ((try dsimp only at hSw); obtain ⟨c1, _⟩ := hSw; go_simp; try rfl); try simp only [Act.put, List.setIfInBounds_toArray, List.set_cons_zero, List.set_cons_succ])
                        (refine gheld_val (i := 13) rfl (by kernel_rfl) (by kernel_rfl) (by kernel_rfl) hHeld (by rfl) ?_; apply Exists.intro; refine ⟨fun wq hSw => ?_, ?_⟩; ((try dsimp only at hSw); obtain ⟨c1, _⟩ := hSw; go_simp; try rfl); try simp only [Act.put, List.setIfInBounds_toArray, List.set_cons_zero, List.set_cons_succ])
                        (refine gheld_val (i := 14) rfl (by kernel_rfl) (by kernel_rfl) (by kernel_rfl) hHeld (by rfl) ?_; apply Exists.intro; refine ⟨fun wq hSw => ?_, ?_⟩; ((try dsimp only at hSw); obtain ⟨c1, _⟩ := hSw; go_simp; try rfl); try simp only [Act.put, List.setIfInBounds_toArray, List.set_cons_zero, List.set_cons_succ])
                        refine wpAnyH_ready (rs := [16]) (by kernel_rfl) (by simp) ?_
                        refine AllReadyH.cons (gof_drop rfl) (fun K hK => ?_) AllReadyH.nil
                        · have kf := frz_at a13 0
                          have kc : V66.cell? ⟨V50.heap.size, 0, none⟩ = some (.slice none 0 0) := (cell_at a13 0).trans rfl
                          go_simp
                          clear kf kc
                          obtain ⟨V67, hV⟩ : ∃ V, V66.setCell ⟨V50.heap.size, 0, none⟩ (.slice A4 N1 c4) = V := ⟨_, rfl⟩
                          have hfin := hfin (.slice A4 N1 c4)
                          have a13 := heap_set_same _ _ 0 (.slice A4 N1 c4) _ _ a13
                          have lo : Below w4.heap.size w4 V67 := hV ▸ lo.setCell (p := ⟨V50.heap.size, 0, none⟩) (by show w4.heap.size ≤ V50.heap.size; omega) _
                          rw [hV] at hfin a13 ⊢
                          clear hV
                          refine hK.out _ _ (HCell.out _ lo) (fun hHeld => ?_)
                          clear hK K
                          try simp only [Act.put, List.setIfInBounds_toArray, List.set_cons_zero, List.set_cons_succ]
                          (refine gheld_val (i := 17) rfl (by kernel_rfl) (by kernel_rfl) (by kernel_rfl) hHeld (by rfl) ?_; apply Exists.intro; refine ⟨fun wq hSw => ?_, ?_⟩; ((try dsimp only at hSw); obtain ⟨c1, _⟩ := hSw; go_simp; try rfl); try simp only [Act.put, List.setIfInBounds_toArray, List.set_cons_zero, List.set_cons_succ])
                          refine wpAnyH_done (by kernel_rfl) ⟨rfl, ?_⟩ _
                          exact HRest.out V67 V49.heap.size W0.heap.size V50.heap.size _ _ A4 R4 c4 lo a13 q1 hfin
              · go_simp
                obtain ⟨V68, hV⟩ : ∃ V, V49.alloc (.cells #[.slice none 0 0] 24) = V := ⟨_, rfl⟩
                have szq : V68.heap.size = V49.heap.size + 1 := by rw [← hV]; exact World.size_alloc _ _
                have sz : V68.heap.size ≤ V49.heap.size + 1 ∧ V49.heap.size + 1 ≤ V68.heap.size := by omega
                clear szq
                have hb : Below V49.heap.size V49 V68 := hV ▸ one_below _ _
                have gz := lo.size
                have lo := lo.trans (hb.mono lo.size)
                have anew : V68.heap[V49.heap.size]? = some (.cells #[.slice none 0 0] 24 (0, 0)) := hV ▸ World.alloc_heap_new _ _
                have a7 := (hb.block _ (by omega)).trans a7
                have a13 := anew
                clear anew
                rw [hV]
                clear hV
                refine hK.out _ _ (HCell.out _ lo) (fun hHeld => ?_)
                clear hK K
                try simp only [Act.put, List.setIfInBounds_toArray, List.set_cons_zero, List.set_cons_succ]
                refine wpAnyH_ready (rs := [3]) (by kernel_rfl) (by simp) ?_
                refine AllReadyH.cons (gof_drop rfl) (fun K hK => ?_) AllReadyH.nil
                · go_simp
                  obtain ⟨V69, hV⟩ : ∃ V, V68.alloc (.cells #[] 36) = V := ⟨_, rfl⟩
                  have szq : V69.heap.size = V68.heap.size + 1 := by rw [← hV]; exact World.size_alloc _ _
                  have sz : V69.heap.size ≤ V68.heap.size + 1 ∧ V68.heap.size + 1 ≤ V69.heap.size := by omega
                  clear szq
                  have hb : Below V68.heap.size V68 V69 := hV ▸ one_below _ _
                  have gz := lo.size
                  have lo := lo.trans (hb.mono lo.size)
                  have anew : V69.heap[V68.heap.size]? = some (.cells #[] 36 (0, 0)) := hV ▸ World.alloc_heap_new _ _
                  have a7 := (hb.block _ (by omega)).trans a7
                  have a13 := (hb.block _ (by omega)).trans a13
                  have own : V69.ownsRow w4.heap.size 36 2 (.slice (some ⟨V68.heap.size, 0, none⟩) 0 0) 0 [] := ⟨rfl, .inr ⟨V68.heap.size, 0, #[], rfl, by omega, anew, by omega, by decide, rfl, rfl⟩⟩
                  have ne7 : (Value.slice (some ⟨V68.heap.size, 0, none⟩) 0 0).ownBlock ≠ some W0.heap.size := fun e => by have : V68.heap.size = W0.heap.size := Option.some.inj e; omega
                  have ne13 : (Value.slice (some ⟨V68.heap.size, 0, none⟩) 0 0).ownBlock ≠ some V49.heap.size := fun e => by have : V68.heap.size = V49.heap.size := Option.some.inj e; omega
                  clear anew
                  rw [hV]
                  clear hV
                  refine hK.out _ _ (HCell.out _ lo) (fun hHeld => ?_)
                  clear hK K
                  try simp only [Act.put, List.setIfInBounds_toArray, List.set_cons_zero, List.set_cons_succ]
                  refine wpAnyH_ready (rs := [5]) (by kernel_rfl) (by simp) ?_
                  refine AllReadyH.cons (gof_drop rfl) (fun K hK => ?_) AllReadyH.nil
                  · refine arcs_atN (by rfl) (.tmp 94) (.tmp 95) (by rfl) w4.heap.size _ 0 [] (by rfl) own A1 n c1 (acs L) (by rfl) hcp.2 hcp.1 hacl (HArc.out _ lo) (acs_one _) (by omega) lo.size ?_
                    intro v5 V70 own2 gr h4
                    have lo2 := lo.trans (grown_low gr own lo.size)
                    have gsz := gr.size
                    have a7 := (gr.block _ (Array.getElem?_eq_some_iff.1 a7).1 (fun e => ne7 e.symm)).trans a7
                    have ne7 : v5.ownBlock ≠ some W0.heap.size := fun e => by rcases h4 with q | q; exact ne7 (q.symm.trans e); have : V69.heap.size = W0.heap.size := Option.some.inj (q.symm.trans e); omega
                    have a13 := (gr.block _ (Array.getElem?_eq_some_iff.1 a13).1 (fun e => ne13 e.symm)).trans a13
                    have ne13 : v5.ownBlock ≠ some V49.heap.size := fun e => by rcases h4 with q | q; exact ne13 (q.symm.trans e); have : V69.heap.size = V49.heap.size := Option.some.inj (q.symm.trans e); omega
                    have own := own2
                    have lo := lo2
                    clear own2 lo2 gr h4
                    rw [Nat.zero_add, List.nil_append] at own
                    obtain ⟨Ax5, cx5, rfl⟩ := own_sliceT own
                    refine hK.out _ _ (HCell.out _ lo) (fun hHeld => ?_)
                    clear hK K
                    try simp only [Act.put, List.setIfInBounds_toArray, List.set_cons_zero, List.set_cons_succ]
                    refine wpAnyH_ready (rs := [10]) (by kernel_rfl) (by simp) ?_
                    refine AllReadyH.cons (gof_drop rfl) (fun K hK => ?_) AllReadyH.nil
                    · refine arcs_at (by rfl) (.tmp 96) (.tmp 100) (by rfl) w4.heap.size _ n (acs L) (by rfl) own W0.heap.size 0 1 1 [.int .i64 (j : Int), .int .i64 (l : Int)] (by rfl) rfl (fun j u hj => (cell_at a7 _).trans (by rw [Nat.zero_add]; simpa using hj)) (by simp [Value.oneCell']) (by omega) lo.size ?_
                      intro v10 V71 own2 gr h4
                      have lo2 := lo.trans (grown_low gr own lo.size)
                      have gsz := gr.size
                      have a13 := (gr.block _ (Array.getElem?_eq_some_iff.1 a13).1 (fun e => ne13 e.symm)).trans a13
                      have ne13 : v10.ownBlock ≠ some V49.heap.size := fun e => by rcases h4 with q | q; exact ne13 (q.symm.trans e); have : V70.heap.size = V49.heap.size := Option.some.inj (q.symm.trans e); omega
                      have own := own2
                      have lo := lo2
                      clear own2 lo2 gr h4
                      obtain ⟨Ax8, cx8, rfl⟩ := own_sliceT own
                      refine hK.out _ _ (HCell.out _ lo) (fun hHeld => ?_)
                      clear hK K
                      try simp only [Act.put, List.setIfInBounds_toArray, List.set_cons_zero, List.set_cons_succ]
                      refine wpAnyH_ready (rs := [11]) (by kernel_rfl) (by simp) ?_
                      refine AllReadyH.cons (gof_drop rfl) (fun K hK => ?_) AllReadyH.nil
                      · go_simp
                        have hrd : RdV V71 V71.heap.size Ax8 (rcs (rz L ++ [((j : Int), (l : Int))])) := by have := own_rdvA own; rw [rcs_append]; exact this
                        refine (HO.out Ax8 cx8 V71 hrd).mono ?_
                        rintro e V72 ⟨A4, R4, c4, rfl, q1, rdh, q3⟩
                        have gz := lo.size
                        have gq := q3.size
                        have lo := lo.trans (q3.mono lo.size)
                        have alt := (Array.getElem?_eq_some_iff.1 a13).1
                        have a13 := (q3.block _ alt).trans a13
                        have hfin : ∀ y, RdG (V72.setCell ⟨V49.heap.size, 0, none⟩ y) (V72.setCell ⟨V49.heap.size, 0, none⟩ y).heap.size A4 R4 := fun y => rdh _ (fun k h1 h2 => Below.heap_setCell _ _ _ _ (by show k ≠ V49.heap.size; omega)) (by simp [World.setCell])
                        clear hrd
                        refine hK.out _ _ (HCell.out _ lo) (fun hHeld => ?_)
                        clear hK K
                        try simp only [Act.put, List.setIfInBounds_toArray, List.set_cons_zero, List.set_cons_succ]
                        (refine gheld_val (i := 12) rfl (by kernel_rfl) (by kernel_rfl) (by kernel_rfl) hHeld (by rfl) ?_; apply Exists.intro; refine ⟨fun wq hSw => ?_, ?_⟩; ((try dsimp only at hSw); obtain ⟨c1, _⟩ := hSw; go_simp; try rfl); try simp only [Act.put, List.setIfInBounds_toArray, List.set_cons_zero, List.set_cons_succ])
                        (refine gheld_val (i := 13) rfl (by kernel_rfl) (by kernel_rfl) (by kernel_rfl) hHeld (by rfl) ?_; apply Exists.intro; refine ⟨fun wq hSw => ?_, ?_⟩; ((try dsimp only at hSw); obtain ⟨c1, _⟩ := hSw; go_simp; try rfl); try simp only [Act.put, List.setIfInBounds_toArray, List.set_cons_zero, List.set_cons_succ])
                        (refine gheld_val (i := 14) rfl (by kernel_rfl) (by kernel_rfl) (by kernel_rfl) hHeld (by rfl) ?_; apply Exists.intro; refine ⟨fun wq hSw => ?_, ?_⟩; ((try dsimp only at hSw); obtain ⟨c1, _⟩ := hSw; go_simp; try rfl); try simp only [Act.put, List.setIfInBounds_toArray, List.set_cons_zero, List.set_cons_succ])
                        refine wpAnyH_ready (rs := [16]) (by kernel_rfl) (by simp) ?_
                        refine AllReadyH.cons (gof_drop rfl) (fun K hK => ?_) AllReadyH.nil
                        · have kf := frz_at a13 0
                          have kc : V72.cell? ⟨V49.heap.size, 0, none⟩ = some (.slice none 0 0) := (cell_at a13 0).trans rfl
                          go_simp
                          clear kf kc
                          obtain ⟨V73, hV⟩ : ∃ V, V72.setCell ⟨V49.heap.size, 0, none⟩ (.slice A4 N1 c4) = V := ⟨_, rfl⟩
                          have hfin := hfin (.slice A4 N1 c4)
                          have a13 := heap_set_same _ _ 0 (.slice A4 N1 c4) _ _ a13
                          have lo : Below w4.heap.size w4 V73 := hV ▸ lo.setCell (p := ⟨V49.heap.size, 0, none⟩) (by show w4.heap.size ≤ V49.heap.size; omega) _
                          rw [hV] at hfin a13 ⊢
                          clear hV
                          refine hK.out _ _ (HCell.out _ lo) (fun hHeld => ?_)
                          clear hK K
                          try simp only [Act.put, List.setIfInBounds_toArray, List.set_cons_zero, List.set_cons_succ]
                          (refine gheld_val (i := 17) rfl (by kernel_rfl) (by kernel_rfl) (by kernel_rfl) hHeld (by rfl) ?_; apply Exists.intro; refine ⟨fun wq hSw => ?_, ?_⟩; ((try dsimp only at hSw); obtain ⟨c1, _⟩ := hSw; go_simp; try rfl); try simp only [Act.put, List.setIfInBounds_toArray, List.set_cons_zero, List.set_cons_succ])
                          refine wpAnyH_done (by kernel_rfl) ⟨rfl, ?_⟩ _
                          exact HRest.out V73 V68.heap.size W0.heap.size V49.heap.size _ _ A4 R4 c4 lo a13 q1 hfin
            · go_simp
              obtain ⟨V74, hV⟩ : ∃ V, W0.alloc (.cells #[.slice none 0 0] 24) = V := ⟨_, rfl⟩
              have szq : V74.heap.size = W0.heap.size + 1 := by rw [← hV]; exact World.size_alloc _ _
              have sz : V74.heap.size ≤ W0.heap.size + 1 ∧ W0.heap.size + 1 ≤ V74.heap.size := by omega
              clear szq
              have hb : Below W0.heap.size W0 V74 := hV ▸ one_below _ _
              have gz := lo.size
              have lo := lo.trans (hb.mono lo.size)
              have anew : V74.heap[W0.heap.size]? = some (.cells #[.slice none 0 0] 24 (0, 0)) := hV ▸ World.alloc_heap_new _ _
              have a13 := anew
              clear anew
              rw [hV]
              clear hV
              refine hK.out _ _ (HCell.out _ lo) (fun hHeld => ?_)
              clear hK K
              try simp only [Act.put, List.setIfInBounds_toArray, List.set_cons_zero, List.set_cons_succ]
              refine wpAnyH_ready (rs := [3, 9]) (by kernel_rfl) (by simp) ?_
              refine AllReadyH.cons (gof_drop rfl) (fun K hK => ?_) (AllReadyH.cons (gof_drop rfl) (fun K hK => ?_) AllReadyH.nil)
              · go_simp
                obtain ⟨V75, hV⟩ : ∃ V, V74.alloc (.cells #[] 36) = V := ⟨_, rfl⟩
                have szq : V75.heap.size = V74.heap.size + 1 := by rw [← hV]; exact World.size_alloc _ _
                have sz : V75.heap.size ≤ V74.heap.size + 1 ∧ V74.heap.size + 1 ≤ V75.heap.size := by omega
                clear szq
                have hb : Below V74.heap.size V74 V75 := hV ▸ one_below _ _
                have gz := lo.size
                have lo := lo.trans (hb.mono lo.size)
                have anew : V75.heap[V74.heap.size]? = some (.cells #[] 36 (0, 0)) := hV ▸ World.alloc_heap_new _ _
                have a13 := (hb.block _ (by omega)).trans a13
                have own : V75.ownsRow w4.heap.size 36 2 (.slice (some ⟨V74.heap.size, 0, none⟩) 0 0) 0 [] := ⟨rfl, .inr ⟨V74.heap.size, 0, #[], rfl, by omega, anew, by omega, by decide, rfl, rfl⟩⟩
                have ne13 : (Value.slice (some ⟨V74.heap.size, 0, none⟩) 0 0).ownBlock ≠ some W0.heap.size := fun e => by have : V74.heap.size = W0.heap.size := Option.some.inj e; omega
                clear anew
                rw [hV]
                clear hV
                refine hK.out _ _ (HCell.out _ lo) (fun hHeld => ?_)
                clear hK K
                try simp only [Act.put, List.setIfInBounds_toArray, List.set_cons_zero, List.set_cons_succ]
                refine wpAnyH_ready (rs := [5, 9]) (by kernel_rfl) (by simp) ?_
                refine AllReadyH.cons (gof_drop rfl) (fun K hK => ?_) (AllReadyH.cons (gof_drop rfl) (fun K hK => ?_) AllReadyH.nil)
                · refine arcs_atN (by rfl) (.tmp 94) (.tmp 95) (by rfl) w4.heap.size _ 0 [] (by rfl) own A1 n c1 (acs L) (by rfl) hcp.2 hcp.1 hacl (HArc.out _ lo) (acs_one _) (by omega) lo.size ?_
                  intro v5 V76 own2 gr h4
                  have lo2 := lo.trans (grown_low gr own lo.size)
                  have gsz := gr.size
                  have a13 := (gr.block _ (Array.getElem?_eq_some_iff.1 a13).1 (fun e => ne13 e.symm)).trans a13
                  have ne13 : v5.ownBlock ≠ some W0.heap.size := fun e => by rcases h4 with q | q; exact ne13 (q.symm.trans e); have : V75.heap.size = W0.heap.size := Option.some.inj (q.symm.trans e); omega
                  have own := own2
                  have lo := lo2
                  clear own2 lo2 gr h4
                  rw [Nat.zero_add, List.nil_append] at own
                  obtain ⟨Ax5, cx5, rfl⟩ := own_sliceT own
                  refine hK.out _ _ (HCell.out _ lo) (fun hHeld => ?_)
                  clear hK K
                  try simp only [Act.put, List.setIfInBounds_toArray, List.set_cons_zero, List.set_cons_succ]
                  refine wpAnyH_ready (rs := [9]) (by kernel_rfl) (by simp) ?_
                  refine AllReadyH.cons (gof_drop rfl) (fun K hK => ?_) AllReadyH.nil
                  · have own0 := own
                    go_simp
                    obtain ⟨V77, hV⟩ : ∃ V, V76.alloc (.cells #[.int .i64 (j : Int), .int .i64 (l : Int)] 36) = V := ⟨_, rfl⟩
                    have szq : V77.heap.size = V76.heap.size + 1 := by rw [← hV]; exact World.size_alloc _ _
                    have sz : V77.heap.size ≤ V76.heap.size + 1 ∧ V76.heap.size + 1 ≤ V77.heap.size := by omega
                    clear szq
                    have hb : Below V76.heap.size V76 V77 := hV ▸ one_below _ _
                    have gz := lo.size
                    have lo := lo.trans (hb.mono lo.size)
                    have anew : V77.heap[V76.heap.size]? = some (.cells #[.int .i64 (j : Int), .int .i64 (l : Int)] 36 (0, 0)) := hV ▸ World.alloc_heap_new _ _
                    have a13 := (hb.block _ (by omega)).trans a13
                    have own : V77.ownsRow w4.heap.size 36 2 (.slice Ax5 n cx5) n (acs L) := hV ▸ own.alloc _
                    have a7 := anew
                    have ne7 : Value.ownBlock (.slice Ax5 n cx5) ≠ some V76.heap.size := fun e => absurd (own_blk_lt own0 e) (Nat.lt_irrefl _)
                    clear anew
                    rw [hV]
                    clear hV
                    refine hK.out _ _ (HCell.out _ lo) (fun hHeld => ?_)
                    clear hK K
                    try simp only [Act.put, List.setIfInBounds_toArray, List.set_cons_zero, List.set_cons_succ]
                    refine wpAnyH_ready (rs := [10]) (by kernel_rfl) (by simp) ?_
                    refine AllReadyH.cons (gof_drop rfl) (fun K hK => ?_) AllReadyH.nil
                    · refine arcs_at (by rfl) (.tmp 96) (.tmp 100) (by rfl) w4.heap.size _ n (acs L) (by rfl) own V76.heap.size 0 1 1 [.int .i64 (j : Int), .int .i64 (l : Int)] (by rfl) rfl (fun j u hj => (cell_at a7 _).trans (by rw [Nat.zero_add]; simpa using hj)) (by simp [Value.oneCell']) (by omega) lo.size ?_
                      intro v10 V78 own2 gr h4
                      have lo2 := lo.trans (grown_low gr own lo.size)
                      have gsz := gr.size
                      have a13 := (gr.block _ (Array.getElem?_eq_some_iff.1 a13).1 (fun e => ne13 e.symm)).trans a13
                      have ne13 : v10.ownBlock ≠ some W0.heap.size := fun e => by rcases h4 with q | q; exact ne13 (q.symm.trans e); have : V77.heap.size = W0.heap.size := Option.some.inj (q.symm.trans e); omega
                      have own := own2
                      have lo := lo2
                      clear own2 lo2 gr h4
                      obtain ⟨Ax8, cx8, rfl⟩ := own_sliceT own
                      refine hK.out _ _ (HCell.out _ lo) (fun hHeld => ?_)
                      clear hK K
                      try simp only [Act.put, List.setIfInBounds_toArray, List.set_cons_zero, List.set_cons_succ]
                      refine wpAnyH_ready (rs := [11]) (by kernel_rfl) (by simp) ?_
                      refine AllReadyH.cons (gof_drop rfl) (fun K hK => ?_) AllReadyH.nil
                      · go_simp
                        have hrd : RdV V78 V78.heap.size Ax8 (rcs (rz L ++ [((j : Int), (l : Int))])) := by have := own_rdvA own; rw [rcs_append]; exact this
                        refine (HO.out Ax8 cx8 V78 hrd).mono ?_
                        rintro e V79 ⟨A4, R4, c4, rfl, q1, rdh, q3⟩
                        have gz := lo.size
                        have gq := q3.size
                        have lo := lo.trans (q3.mono lo.size)
                        have alt := (Array.getElem?_eq_some_iff.1 a13).1
                        have a13 := (q3.block _ alt).trans a13
                        have hfin : ∀ y, RdG (V79.setCell ⟨W0.heap.size, 0, none⟩ y) (V79.setCell ⟨W0.heap.size, 0, none⟩ y).heap.size A4 R4 := fun y => rdh _ (fun k h1 h2 => Below.heap_setCell _ _ _ _ (by show k ≠ W0.heap.size; omega)) (by simp [World.setCell])
                        clear hrd
                        refine hK.out _ _ (HCell.out _ lo) (fun hHeld => ?_)
                        clear hK K
                        try simp only [Act.put, List.setIfInBounds_toArray, List.set_cons_zero, List.set_cons_succ]
                        (refine gheld_val (i := 12) rfl (by kernel_rfl) (by kernel_rfl) (by kernel_rfl) hHeld (by rfl) ?_; apply Exists.intro; refine ⟨fun wq hSw => ?_, ?_⟩; ((try dsimp only at hSw); obtain ⟨c1, _⟩ := hSw; go_simp; try rfl); try simp only [Act.put, List.setIfInBounds_toArray, List.set_cons_zero, List.set_cons_succ])
                        (refine gheld_val (i := 13) rfl (by kernel_rfl) (by kernel_rfl) (by kernel_rfl) hHeld (by rfl) ?_; apply Exists.intro; refine ⟨fun wq hSw => ?_, ?_⟩; ((try dsimp only at hSw); obtain ⟨c1, _⟩ := hSw; go_simp; try rfl); try simp only [Act.put, List.setIfInBounds_toArray, List.set_cons_zero, List.set_cons_succ])
                        (refine gheld_val (i := 14) rfl (by kernel_rfl) (by kernel_rfl) (by kernel_rfl) hHeld (by rfl) ?_; apply Exists.intro; refine ⟨fun wq hSw => ?_, ?_⟩; ((try dsimp only at hSw); obtain ⟨c1, _⟩ := hSw; go_simp; try rfl); try simp only [Act.put, List.setIfInBounds_toArray, List.set_cons_zero, List.set_cons_succ])
                        refine wpAnyH_ready (rs := [16]) (by kernel_rfl) (by simp) ?_
                        refine AllReadyH.cons (gof_drop rfl) (fun K hK => ?_) AllReadyH.nil
                        · have kf := frz_at a13 0
                          have kc : V79.cell? ⟨W0.heap.size, 0, none⟩ = some (.slice none 0 0) := (cell_at a13 0).trans rfl
                          go_simp
                          clear kf kc
                          obtain ⟨V80, hV⟩ : ∃ V, V79.setCell ⟨W0.heap.size, 0, none⟩ (.slice A4 N1 c4) = V := ⟨_, rfl⟩
                          have hfin := hfin (.slice A4 N1 c4)
                          have a13 := heap_set_same _ _ 0 (.slice A4 N1 c4) _ _ a13
                          have lo : Below w4.heap.size w4 V80 := hV ▸ lo.setCell (p := ⟨W0.heap.size, 0, none⟩) (by show w4.heap.size ≤ W0.heap.size; omega) _
                          rw [hV] at hfin a13 ⊢
                          clear hV
                          refine hK.out _ _ (HCell.out _ lo) (fun hHeld => ?_)
                          clear hK K
                          try simp only [Act.put, List.setIfInBounds_toArray, List.set_cons_zero, List.set_cons_succ]
                          (refine gheld_val (i := 17) rfl (by kernel_rfl) (by kernel_rfl) (by kernel_rfl) hHeld (by rfl) ?_; apply Exists.intro; refine ⟨fun wq hSw => ?_, ?_⟩; ((try dsimp only at hSw); obtain ⟨c1, _⟩ := hSw; go_simp; try rfl); try simp only [Act.put, List.setIfInBounds_toArray, List.set_cons_zero, List.set_cons_succ])
                          refine wpAnyH_done (by kernel_rfl) ⟨rfl, ?_⟩ _
                          exact HRest.out V80 V74.heap.size V76.heap.size W0.heap.size _ _ A4 R4 c4 lo a13 q1 hfin
                · have own0 := own
                  go_simp
                  obtain ⟨V81, hV⟩ : ∃ V, V75.alloc (.cells #[.int .i64 (j : Int), .int .i64 (l : Int)] 36) = V := ⟨_, rfl⟩
                  have szq : V81.heap.size = V75.heap.size + 1 := by rw [← hV]; exact World.size_alloc _ _
                  have sz : V81.heap.size ≤ V75.heap.size + 1 ∧ V75.heap.size + 1 ≤ V81.heap.size := by omega
                  clear szq
                  have hb : Below V75.heap.size V75 V81 := hV ▸ one_below _ _
                  have gz := lo.size
                  have lo := lo.trans (hb.mono lo.size)
                  have anew : V81.heap[V75.heap.size]? = some (.cells #[.int .i64 (j : Int), .int .i64 (l : Int)] 36 (0, 0)) := hV ▸ World.alloc_heap_new _ _
                  have a13 := (hb.block _ (by omega)).trans a13
                  have own : V81.ownsRow w4.heap.size 36 2 (.slice (some ⟨V74.heap.size, 0, none⟩) 0 0) 0 [] := hV ▸ own.alloc _
                  have a7 := anew
                  have ne7 : Value.ownBlock (.slice (some ⟨V74.heap.size, 0, none⟩) 0 0) ≠ some V75.heap.size := fun e => absurd (own_blk_lt own0 e) (Nat.lt_irrefl _)
                  clear anew
                  rw [hV]
                  clear hV
                  refine hK.out _ _ (HCell.out _ lo) (fun hHeld => ?_)
                  clear hK K
                  try simp only [Act.put, List.setIfInBounds_toArray, List.set_cons_zero, List.set_cons_succ]
                  refine wpAnyH_ready (rs := [5]) (by kernel_rfl) (by simp) ?_
                  refine AllReadyH.cons (gof_drop rfl) (fun K hK => ?_) AllReadyH.nil
                  · refine arcs_atN (by rfl) (.tmp 94) (.tmp 95) (by rfl) w4.heap.size _ 0 [] (by rfl) own A1 n c1 (acs L) (by rfl) hcp.2 hcp.1 hacl (HArc.out _ lo) (acs_one _) (by omega) lo.size ?_
                    intro v5 V82 own2 gr h4
                    have lo2 := lo.trans (grown_low gr own lo.size)
                    have gsz := gr.size
                    have a7 := (gr.block _ (Array.getElem?_eq_some_iff.1 a7).1 (fun e => ne7 e.symm)).trans a7
                    have ne7 : v5.ownBlock ≠ some V75.heap.size := fun e => by rcases h4 with q | q; exact ne7 (q.symm.trans e); have : V81.heap.size = V75.heap.size := Option.some.inj (q.symm.trans e); omega
                    have a13 := (gr.block _ (Array.getElem?_eq_some_iff.1 a13).1 (fun e => ne13 e.symm)).trans a13
                    have ne13 : v5.ownBlock ≠ some W0.heap.size := fun e => by rcases h4 with q | q; exact ne13 (q.symm.trans e); have : V81.heap.size = W0.heap.size := Option.some.inj (q.symm.trans e); omega
                    have own := own2
                    have lo := lo2
                    clear own2 lo2 gr h4
                    rw [Nat.zero_add, List.nil_append] at own
                    obtain ⟨Ax5, cx5, rfl⟩ := own_sliceT own
                    refine hK.out _ _ (HCell.out _ lo) (fun hHeld => ?_)
                    clear hK K
                    try simp only [Act.put, List.setIfInBounds_toArray, List.set_cons_zero, List.set_cons_succ]
                    refine wpAnyH_ready (rs := [10]) (by kernel_rfl) (by simp) ?_
                    refine AllReadyH.cons (gof_drop rfl) (fun K hK => ?_) AllReadyH.nil
                    · refine arcs_at (by rfl) (.tmp 96) (.tmp 100) (by rfl) w4.heap.size _ n (acs L) (by rfl) own V75.heap.size 0 1 1 [.int .i64 (j : Int), .int .i64 (l : Int)] (by rfl) rfl (fun j u hj => (cell_at a7 _).trans (by rw [Nat.zero_add]; simpa using hj)) (by simp [Value.oneCell']) (by omega) lo.size ?_
                      intro v10 V83 own2 gr h4
                      have lo2 := lo.trans (grown_low gr own lo.size)
                      have gsz := gr.size
                      have a13 := (gr.block _ (Array.getElem?_eq_some_iff.1 a13).1 (fun e => ne13 e.symm)).trans a13
                      have ne13 : v10.ownBlock ≠ some W0.heap.size := fun e => by rcases h4 with q | q; exact ne13 (q.symm.trans e); have : V82.heap.size = W0.heap.size := Option.some.inj (q.symm.trans e); omega
                      have own := own2
                      have lo := lo2
                      clear own2 lo2 gr h4
                      obtain ⟨Ax8, cx8, rfl⟩ := own_sliceT own
                      refine hK.out _ _ (HCell.out _ lo) (fun hHeld => ?_)
                      clear hK K
                      try simp only [Act.put, List.setIfInBounds_toArray, List.set_cons_zero, List.set_cons_succ]
                      refine wpAnyH_ready (rs := [11]) (by kernel_rfl) (by simp) ?_
                      refine AllReadyH.cons (gof_drop rfl) (fun K hK => ?_) AllReadyH.nil
                      · go_simp
                        have hrd : RdV V83 V83.heap.size Ax8 (rcs (rz L ++ [((j : Int), (l : Int))])) := by have := own_rdvA own; rw [rcs_append]; exact this
                        refine (HO.out Ax8 cx8 V83 hrd).mono ?_
                        rintro e V84 ⟨A4, R4, c4, rfl, q1, rdh, q3⟩
                        have gz := lo.size
                        have gq := q3.size
                        have lo := lo.trans (q3.mono lo.size)
                        have alt := (Array.getElem?_eq_some_iff.1 a13).1
                        have a13 := (q3.block _ alt).trans a13
                        have hfin : ∀ y, RdG (V84.setCell ⟨W0.heap.size, 0, none⟩ y) (V84.setCell ⟨W0.heap.size, 0, none⟩ y).heap.size A4 R4 := fun y => rdh _ (fun k h1 h2 => Below.heap_setCell _ _ _ _ (by show k ≠ W0.heap.size; omega)) (by simp [World.setCell])
                        clear hrd
                        refine hK.out _ _ (HCell.out _ lo) (fun hHeld => ?_)
                        clear hK K
                        try simp only [Act.put, List.setIfInBounds_toArray, List.set_cons_zero, List.set_cons_succ]
                        (refine gheld_val (i := 12) rfl (by kernel_rfl) (by kernel_rfl) (by kernel_rfl) hHeld (by rfl) ?_; apply Exists.intro; refine ⟨fun wq hSw => ?_, ?_⟩; ((try dsimp only at hSw); obtain ⟨c1, _⟩ := hSw; go_simp; try rfl); try simp only [Act.put, List.setIfInBounds_toArray, List.set_cons_zero, List.set_cons_succ])
                        (refine gheld_val (i := 13) rfl (by kernel_rfl) (by kernel_rfl) (by kernel_rfl) hHeld (by rfl) ?_; apply Exists.intro; refine ⟨fun wq hSw => ?_, ?_⟩; ((try dsimp only at hSw); obtain ⟨c1, _⟩ := hSw; go_simp; try rfl); try simp only [Act.put, List.setIfInBounds_toArray, List.set_cons_zero, List.set_cons_succ])
                        (refine gheld_val (i := 14) rfl (by kernel_rfl) (by kernel_rfl) (by kernel_rfl) hHeld (by rfl) ?_; apply Exists.intro; refine ⟨fun wq hSw => ?_, ?_⟩; ((try dsimp only at hSw); obtain ⟨c1, _⟩ := hSw; go_simp; try rfl); try simp only [Act.put, List.setIfInBounds_toArray, List.set_cons_zero, List.set_cons_succ])
                        refine wpAnyH_ready (rs := [16]) (by kernel_rfl) (by simp) ?_
                        refine AllReadyH.cons (gof_drop rfl) (fun K hK => ?_) AllReadyH.nil
                        · have kf := frz_at a13 0
                          have kc : V84.cell? ⟨W0.heap.size, 0, none⟩ = some (.slice none 0 0) := (cell_at a13 0).trans rfl
                          go_simp
                          clear kf kc
                          obtain ⟨V85, hV⟩ : ∃ V, V84.setCell ⟨W0.heap.size, 0, none⟩ (.slice A4 N1 c4) = V := ⟨_, rfl⟩
                          have hfin := hfin (.slice A4 N1 c4)
                          have a13 := heap_set_same _ _ 0 (.slice A4 N1 c4) _ _ a13
                          have lo : Below w4.heap.size w4 V85 := hV ▸ lo.setCell (p := ⟨W0.heap.size, 0, none⟩) (by show w4.heap.size ≤ W0.heap.size; omega) _
                          rw [hV] at hfin a13 ⊢
                          clear hV
                          refine hK.out _ _ (HCell.out _ lo) (fun hHeld => ?_)
                          clear hK K
                          try simp only [Act.put, List.setIfInBounds_toArray, List.set_cons_zero, List.set_cons_succ]
                          (refine gheld_val (i := 17) rfl (by kernel_rfl) (by kernel_rfl) (by kernel_rfl) hHeld (by rfl) ?_; apply Exists.intro; refine ⟨fun wq hSw => ?_, ?_⟩; ((try dsimp only at hSw); obtain ⟨c1, _⟩ := hSw; go_simp; try rfl); try simp only [Act.put, List.setIfInBounds_toArray, List.set_cons_zero, List.set_cons_succ])
                          refine wpAnyH_done (by kernel_rfl) ⟨rfl, ?_⟩ _
                          exact HRest.out V85 V74.heap.size V75.heap.size W0.heap.size _ _ A4 R4 c4 lo a13 q1 hfin
              · go_simp
                obtain ⟨V86, hV⟩ : ∃ V, V74.alloc (.cells #[.int .i64 (j : Int), .int .i64 (l : Int)] 36) = V := ⟨_, rfl⟩
                have szq : V86.heap.size = V74.heap.size + 1 := by rw [← hV]; exact World.size_alloc _ _
                have sz : V86.heap.size ≤ V74.heap.size + 1 ∧ V74.heap.size + 1 ≤ V86.heap.size := by omega
                clear szq
                have hb : Below V74.heap.size V74 V86 := hV ▸ one_below _ _
                have gz := lo.size
                have lo := lo.trans (hb.mono lo.size)
                have anew : V86.heap[V74.heap.size]? = some (.cells #[.int .i64 (j : Int), .int .i64 (l : Int)] 36 (0, 0)) := hV ▸ World.alloc_heap_new _ _
                have a13 := (hb.block _ (by omega)).trans a13
                have a7 := anew
                clear anew
                rw [hV]
                clear hV
                refine hK.out _ _ (HCell.out _ lo) (fun hHeld => ?_)
                clear hK K
                try simp only [Act.put, List.setIfInBounds_toArray, List.set_cons_zero, List.set_cons_succ]
                refine wpAnyH_ready (rs := [3]) (by kernel_rfl) (by simp) ?_
                refine AllReadyH.cons (gof_drop rfl) (fun K hK => ?_) AllReadyH.nil
                · go_simp
                  obtain ⟨V87, hV⟩ : ∃ V, V86.alloc (.cells #[] 36) = V := ⟨_, rfl⟩
                  have szq : V87.heap.size = V86.heap.size + 1 := by rw [← hV]; exact World.size_alloc _ _
                  have sz : V87.heap.size ≤ V86.heap.size + 1 ∧ V86.heap.size + 1 ≤ V87.heap.size := by omega
                  clear szq
                  have hb : Below V86.heap.size V86 V87 := hV ▸ one_below _ _
                  have gz := lo.size
                  have lo := lo.trans (hb.mono lo.size)
                  have anew : V87.heap[V86.heap.size]? = some (.cells #[] 36 (0, 0)) := hV ▸ World.alloc_heap_new _ _
                  have a7 := (hb.block _ (by omega)).trans a7
                  have a13 := (hb.block _ (by omega)).trans a13
                  have own : V87.ownsRow w4.heap.size 36 2 (.slice (some ⟨V86.heap.size, 0, none⟩) 0 0) 0 [] := ⟨rfl, .inr ⟨V86.heap.size, 0, #[], rfl, by omega, anew, by omega, by decide, rfl, rfl⟩⟩
                  have ne7 : (Value.slice (some ⟨V86.heap.size, 0, none⟩) 0 0).ownBlock ≠ some V74.heap.size := fun e => by have : V86.heap.size = V74.heap.size := Option.some.inj e; omega
                  have ne13 : (Value.slice (some ⟨V86.heap.size, 0, none⟩) 0 0).ownBlock ≠ some W0.heap.size := fun e => by have : V86.heap.size = W0.heap.size := Option.some.inj e; omega
                  clear anew
                  rw [hV]
                  clear hV
                  refine hK.out _ _ (HCell.out _ lo) (fun hHeld => ?_)
                  clear hK K
                  try simp only [Act.put, List.setIfInBounds_toArray, List.set_cons_zero, List.set_cons_succ]
                  refine wpAnyH_ready (rs := [5]) (by kernel_rfl) (by simp) ?_
                  refine AllReadyH.cons (gof_drop rfl) (fun K hK => ?_) AllReadyH.nil
                  · refine arcs_atN (by rfl) (.tmp 94) (.tmp 95) (by rfl) w4.heap.size _ 0 [] (by rfl) own A1 n c1 (acs L) (by rfl) hcp.2 hcp.1 hacl (HArc.out _ lo) (acs_one _) (by omega) lo.size ?_
                    intro v5 V88 own2 gr h4
                    have lo2 := lo.trans (grown_low gr own lo.size)
                    have gsz := gr.size
                    have a7 := (gr.block _ (Array.getElem?_eq_some_iff.1 a7).1 (fun e => ne7 e.symm)).trans a7
                    have ne7 : v5.ownBlock ≠ some V74.heap.size := fun e => by rcases h4 with q | q; exact ne7 (q.symm.trans e); have : V87.heap.size = V74.heap.size := Option.some.inj (q.symm.trans e); omega
                    have a13 := (gr.block _ (Array.getElem?_eq_some_iff.1 a13).1 (fun e => ne13 e.symm)).trans a13
                    have ne13 : v5.ownBlock ≠ some W0.heap.size := fun e => by rcases h4 with q | q; exact ne13 (q.symm.trans e); have : V87.heap.size = W0.heap.size := Option.some.inj (q.symm.trans e); omega
                    have own := own2
                    have lo := lo2
                    clear own2 lo2 gr h4
                    rw [Nat.zero_add, List.nil_append] at own
                    obtain ⟨Ax5, cx5, rfl⟩ := own_sliceT own
                    refine hK.out _ _ (HCell.out _ lo) (fun hHeld => ?_)
                    clear hK K
                    try simp only [Act.put, List.setIfInBounds_toArray, List.set_cons_zero, List.set_cons_succ]
                    refine wpAnyH_ready (rs := [10]) (by kernel_rfl) (by simp) ?_
                    refine AllReadyH.cons (gof_drop rfl) (fun K hK => ?_) AllReadyH.nil
                    · refine arcs_at (by rfl) (.tmp 96) (.tmp 100) (by rfl) w4.heap.size _ n (acs L) (by rfl) own V74.heap.size 0 1 1 [.int .i64 (j : Int), .int .i64 (l : Int)] (by rfl) rfl (fun j u hj => (cell_at a7 _).trans (by rw [Nat.zero_add]; simpa using hj)) (by simp [Value.oneCell']) (by omega) lo.size ?_
                      intro v10 V89 own2 gr h4
                      have lo2 := lo.trans (grown_low gr own lo.size)
                      have gsz := gr.size
                      have a13 := (gr.block _ (Array.getElem?_eq_some_iff.1 a13).1 (fun e => ne13 e.symm)).trans a13
                      have ne13 : v10.ownBlock ≠ some W0.heap.size := fun e => by rcases h4 with q | q; exact ne13 (q.symm.trans e); have : V88.heap.size = W0.heap.size := Option.some.inj (q.symm.trans e); omega
                      have own := own2
                      have lo := lo2
                      clear own2 lo2 gr h4
                      obtain ⟨Ax8, cx8, rfl⟩ := own_sliceT own
                      refine hK.out _ _ (HCell.out _ lo) (fun hHeld => ?_)
                      clear hK K
                      try simp only [Act.put, List.setIfInBounds_toArray, List.set_cons_zero, List.set_cons_succ]
                      refine wpAnyH_ready (rs := [11]) (by kernel_rfl) (by simp) ?_
                      refine AllReadyH.cons (gof_drop rfl) (fun K hK => ?_) AllReadyH.nil
                      · go_simp
                        have hrd : RdV V89 V89.heap.size Ax8 (rcs (rz L ++ [((j : Int), (l : Int))])) := by have := own_rdvA own; rw [rcs_append]; exact this
                        refine (HO.out Ax8 cx8 V89 hrd).mono ?_
                        rintro e V90 ⟨A4, R4, c4, rfl, q1, rdh, q3⟩
                        have gz := lo.size
                        have gq := q3.size
                        have lo := lo.trans (q3.mono lo.size)
                        have alt := (Array.getElem?_eq_some_iff.1 a13).1
                        have a13 := (q3.block _ alt).trans a13
                        have hfin : ∀ y, RdG (V90.setCell ⟨W0.heap.size, 0, none⟩ y) (V90.setCell ⟨W0.heap.size, 0, none⟩ y).heap.size A4 R4 := fun y => rdh _ (fun k h1 h2 => Below.heap_setCell _ _ _ _ (by show k ≠ W0.heap.size; omega)) (by simp [World.setCell])
                        clear hrd
                        refine hK.out _ _ (HCell.out _ lo) (fun hHeld => ?_)
                        clear hK K
                        try simp only [Act.put, List.setIfInBounds_toArray, List.set_cons_zero, List.set_cons_succ]
                        (refine gheld_val (i := 12) rfl (by kernel_rfl) (by kernel_rfl) (by kernel_rfl) hHeld (by rfl) ?_; apply Exists.intro; refine ⟨fun wq hSw => ?_, ?_⟩; ((try dsimp only at hSw); obtain ⟨c1, _⟩ := hSw; go_simp; try rfl); try simp only [Act.put, List.setIfInBounds_toArray, List.set_cons_zero, List.set_cons_succ])
                        (refine gheld_val (i := 13) rfl (by kernel_rfl) (by kernel_rfl) (by kernel_rfl) hHeld (by rfl) ?_; apply Exists.intro; refine ⟨fun wq hSw => ?_, ?_⟩; ((try dsimp only at hSw); obtain ⟨c1, _⟩ := hSw; go_simp; try rfl); try simp only [Act.put, List.setIfInBounds_toArray, List.set_cons_zero, List.set_cons_succ])
                        (refine gheld_val (i := 14) rfl (by kernel_rfl) (by kernel_rfl) (by kernel_rfl) hHeld (by rfl) ?_; apply Exists.intro; refine ⟨fun wq hSw => ?_, ?_⟩; ((try dsimp only at hSw); obtain ⟨c1, _⟩ := hSw; go_simp; try rfl); try simp only [Act.put, List.setIfInBounds_toArray, List.set_cons_zero, List.set_cons_succ])
                        refine wpAnyH_ready (rs := [16]) (by kernel_rfl) (by simp) ?_
                        refine AllReadyH.cons (gof_drop rfl) (fun K hK => ?_) AllReadyH.nil
                        · have kf := frz_at a13 0
                          have kc : V90.cell? ⟨W0.heap.size, 0, none⟩ = some (.slice none 0 0) := (cell_at a13 0).trans rfl
                          go_simp
                          clear kf kc
                          obtain ⟨V91, hV⟩ : ∃ V, V90.setCell ⟨W0.heap.size, 0, none⟩ (.slice A4 N1 c4) = V := ⟨_, rfl⟩
                          have hfin := hfin (.slice A4 N1 c4)
                          have a13 := heap_set_same _ _ 0 (.slice A4 N1 c4) _ _ a13
                          have lo : Below w4.heap.size w4 V91 := hV ▸ lo.setCell (p := ⟨W0.heap.size, 0, none⟩) (by show w4.heap.size ≤ W0.heap.size; omega) _
                          rw [hV] at hfin a13 ⊢
                          clear hV
                          refine hK.out _ _ (HCell.out _ lo) (fun hHeld => ?_)
                          clear hK K
                          try simp only [Act.put, List.setIfInBounds_toArray, List.set_cons_zero, List.set_cons_succ]
                          (refine gheld_val (i := 17) rfl (by kernel_rfl) (by kernel_rfl) (by kernel_rfl) hHeld (by rfl) ?_; apply Exists.intro; refine ⟨fun wq hSw => ?_, ?_⟩; ((try dsimp only at hSw); obtain ⟨c1, _⟩ := hSw; go_simp; try rfl); try simp only [Act.put, List.setIfInBounds_toArray, List.set_cons_zero, List.set_cons_succ])
                          refine wpAnyH_done (by kernel_rfl) ⟨rfl, ?_⟩ _
                          exact HRest.out V91 V86.heap.size V74.heap.size W0.heap.size _ _ A4 R4 c4 lo a13 q1 hfin
          by_cases h1 : 0 ≤ u1
          · by_cases h2 : 0 ≤ u2
            · have s1 : decide ((0 : Int) ≤ u1) = true := decide_eq_true h1
              have s2 : decide ((0 : Int) ≤ u2) = true := decide_eq_true h2
              obtain ⟨h3, h4⟩ := htri h1 h2
              have s3 : decide (u3 < 0) = false := by simp; omega
              have s4 : IntKind.i64.wrap (u1 + u2) = u1 + u2 := by rw [IntKind.wrap_i64]; omega
              have s5 : decide (u1 + u2 < u3) = false := by simp; omega
              clear htri
              go_quiet (fail)
              exact HTail.out _ _ _ _ _ _ _ _ _ _ _ _ _ _ _ _ _ _ _ _ _ _ _ _ _ _ _ _ _ _ _ _ _ _ _ (below_drewN (Below.refl _ w3) nq)
            · have s1 : decide ((0 : Int) ≤ u1) = true := decide_eq_true h1
              have s2 : decide ((0 : Int) ≤ u2) = false := decide_eq_false h2
              clear htri
              go_quiet (fail)
              exact HTail.out _ _ _ _ _ _ _ _ _ _ _ _ _ _ _ _ _ _ _ _ _ _ _ _ _ _ _ _ _ _ _ _ _ _ _ (below_drewN (Below.refl _ w3) nq)
          · have s1 : decide ((0 : Int) ≤ u1) = false := decide_eq_false h1
            clear htri
            go_quiet (fail)
            exact HTail.out _ _ _ _ _ _ _ _ _ _ _ _ _ _ _ _ _ _ _ _ _ _ _ _ _ _ _ _ _ _ _ _ _ _ _ (below_drewN (Below.refl _ w3) nq)
        · by_cases hz : t < 0
          · have t2 : decide (t < 0) = true := decide_eq_true hz
            go_wp2
            go_ret
            exact ⟨rfl, HB.out⟩
          · have t2 : decide (t < 0) = false := decide_eq_false hz
            have t3 : decide ((N : Int) ≤ t) = true := by simp; omega
            go_wp2
            go_ret
            exact ⟨rfl, HB.out⟩
      · have HC := Lib.hid (HFt.out m hm A c _ HR.out)
        have k_K0 := K0.out
        go_wp2_with fail
        clear k_K0
        refine HC.out.mono ?_
        rintro e w2 ⟨A8, n8, c8, e8, rfl, t8, bq⟩
        clear HC
        have HBc := Lib.hid bq; clear bq
        have HBq : Hid (Below w1.heap.size w1 w2) := HBc.out
        replace HB : Hid (Below w.heap.size w w2) := HB.out.trans (HBq.out.mono HB.out.size)
        replace HR : Hid (RdG w2 (w2).heap.size A R) := HR.out.on HBq.out
        replace K0 : Hid ((w2).cell? ⟨w.heap.size, 0, none⟩ = some (.slice A N c)) := (HBq.out.cell (World.block_lt_of_cell? _ _ K0.out)).trans K0.out
        replace Q5 : Hid (RdV w2 (w2).heap.size (some ⟨b5, 0, none⟩) (zc F)) := Q5.out.on HBq.out
        clear HBq
        clear HBc
        have HC := Lib.hid (walkbegun_true w2)
        go_wp2_with fail
        refine HC.out.mono ?_
        rintro e w3 ⟨rfl, bq⟩
        clear HC
        have HBc := Lib.hid bq; clear bq
        have HBq : Hid (Below w2.heap.size w2 w3) := HBc.out
        replace HB : Hid (Below w.heap.size w w3) := HB.out.trans (HBq.out.mono HB.out.size)
        replace HR : Hid (RdG w3 (w3).heap.size A R) := HR.out.on HBq.out
        replace K0 : Hid ((w3).cell? ⟨w.heap.size, 0, none⟩ = some (.slice A N c)) := (HBq.out.cell (World.block_lt_of_cell? _ _ K0.out)).trans K0.out
        replace Q5 : Hid (RdV w3 (w3).heap.size (some ⟨b5, 0, none⟩) (zc F)) := Q5.out.on HBq.out
        clear HBq
        clear HBc
        have u8 : (e8 != 0) = true := by simpa using t8
        go_wp2
        go_ret
        exact ⟨rfl, HB.out⟩
    · have HC := Lib.hid (HFt.out s hs A c _ HR.out)
      have k_K0 := K0.out
      go_wp2_with fail
      clear k_K0
      refine HC.out.mono ?_
      rintro e w1 ⟨A9, n9, c9, e9, rfl, t9, bq⟩
      clear HC
      have HBc := Lib.hid bq; clear bq
      have HBq : Hid (Below (w.alloc (.cells #[.slice A N c] 24)).heap.size (w.alloc (.cells #[.slice A N c] 24)) w1) := HBc.out
      replace HB : Hid (Below w.heap.size w w1) := HB.out.trans (HBq.out.mono HB.out.size)
      replace HR : Hid (RdG w1 (w1).heap.size A R) := HR.out.on HBq.out
      replace K0 : Hid ((w1).cell? ⟨w.heap.size, 0, none⟩ = some (.slice A N c)) := (HBq.out.cell (World.block_lt_of_cell? _ _ K0.out)).trans K0.out
      clear HBq
      clear HBc
      have HC := Lib.hid (HFs.out m A c _ HR.out)
      have k_K0 := K0.out
      go_wp2_with fail
      clear k_K0
      refine HC.out.mono ?_
      rintro e w2 ⟨A8, n8, c8, e8, rfl, bq⟩
      clear HC
      have HBc := Lib.hid bq; clear bq
      have HBq : Hid (Below w1.heap.size w1 w2) := HBc.out
      replace HB : Hid (Below w.heap.size w w2) := HB.out.trans (HBq.out.mono HB.out.size)
      replace HR : Hid (RdG w2 (w2).heap.size A R) := HR.out.on HBq.out
      replace K0 : Hid ((w2).cell? ⟨w.heap.size, 0, none⟩ = some (.slice A N c)) := (HBq.out.cell (World.block_lt_of_cell? _ _ K0.out)).trans K0.out
      clear HBq
      clear HBc
      have HC := Lib.hid (walkbegun_true w2)
      go_wp2_with fail
      refine HC.out.mono ?_
      rintro e w3 ⟨rfl, bq⟩
      clear HC
      have HBc := Lib.hid bq; clear bq
      have HBq : Hid (Below w2.heap.size w2 w3) := HBc.out
      replace HB : Hid (Below w.heap.size w w3) := HB.out.trans (HBq.out.mono HB.out.size)
      replace HR : Hid (RdG w3 (w3).heap.size A R) := HR.out.on HBq.out
      replace K0 : Hid ((w3).cell? ⟨w.heap.size, 0, none⟩ = some (.slice A N c)) := (HBq.out.cell (World.block_lt_of_cell? _ _ K0.out)).trans K0.out
      clear HBq
      clear HBc
      have u9 : (e9 != 0) = true := by simpa using t9
      go_wp2
      go_ret
      exact ⟨rfl, HB.out⟩
  · have HFe : Hid (∀ s A c V, RdG V V.heap.size A R → Calls Try.prog 14 #[.agg #[.slice A N c], .int .i64 s] V fun e w' => e = .returned (.tuple #[.slice none 0 0, .int .i64 (grE (gs R))]) ∧ Below V.heap.size V w') := fun s A c V h => far_e R N hN hn s _ (cnE_bad e0) e0 A c V h
    have t1 : (grE (gs R) == 0) = false := by simpa using e0
    clear e0 hN hn
    generalize grE (gs R) = e1 at *
    have HB : Hid (Below w.heap.size w w) := Below.refl _ w
    have HR := Lib.hid hA; clear hA
    go_enter Try.func3, Try.ntmps3
    have HBq : Hid (Below w.heap.size w (w.alloc (.cells #[.slice A N c] 24))) := one_below _ _
    replace HB : Hid (Below w.heap.size w (w.alloc (.cells #[.slice A N c] 24))) := HB.out.trans (HBq.out.mono HB.out.size)
    replace HR : Hid (RdG (w.alloc (.cells #[.slice A N c] 24)) ((w.alloc (.cells #[.slice A N c] 24))).heap.size A R) := HR.out.on HBq.out
    clear HBq
    have K0 : Hid (((w.alloc (.cells #[.slice A N c] 24))).cell? ⟨w.heap.size, 0, none⟩ = some (.slice A N c)) := (cell_at (World.alloc_heap_new w _) 0).trans rfl
    have HC := Lib.hid (HFe.out s A c _ HR.out)
    have k_K0 := K0.out
    go_wp2_with fail
    clear k_K0
    refine HC.out.mono ?_
    rintro e w1 ⟨rfl, bq⟩
    clear HC
    have HBc := Lib.hid bq; clear bq
    have HBq : Hid (Below (w.alloc (.cells #[.slice A N c] 24)).heap.size (w.alloc (.cells #[.slice A N c] 24)) w1) := HBc.out
    replace HB : Hid (Below w.heap.size w w1) := HB.out.trans (HBq.out.mono HB.out.size)
    replace HR : Hid (RdG w1 (w1).heap.size A R) := HR.out.on HBq.out
    replace K0 : Hid ((w1).cell? ⟨w.heap.size, 0, none⟩ = some (.slice A N c)) := (HBq.out.cell (World.block_lt_of_cell? _ _ K0.out)).trans K0.out
    clear HBq
    clear HBc
    have HC := Lib.hid (HFe.out m A c _ HR.out)
    have k_K0 := K0.out
    go_wp2_with fail
    clear k_K0
    refine HC.out.mono ?_
    rintro e w2 ⟨rfl, bq⟩
    clear HC
    have HBc := Lib.hid bq; clear bq
    have HBq : Hid (Below w1.heap.size w1 w2) := HBc.out
    replace HB : Hid (Below w.heap.size w w2) := HB.out.trans (HBq.out.mono HB.out.size)
    replace HR : Hid (RdG w2 (w2).heap.size A R) := HR.out.on HBq.out
    replace K0 : Hid ((w2).cell? ⟨w.heap.size, 0, none⟩ = some (.slice A N c)) := (HBq.out.cell (World.block_lt_of_cell? _ _ K0.out)).trans K0.out
    clear HBq
    clear HBc
    have HC := Lib.hid (walkbegun_true w2)
    go_wp2_with fail
    refine HC.out.mono ?_
    rintro e w3 ⟨rfl, bq⟩
    clear HC
    have HBc := Lib.hid bq; clear bq
    have HBq : Hid (Below w2.heap.size w2 w3) := HBc.out
    replace HB : Hid (Below w.heap.size w w3) := HB.out.trans (HBq.out.mono HB.out.size)
    replace HR : Hid (RdG w3 (w3).heap.size A R) := HR.out.on HBq.out
    replace K0 : Hid ((w3).cell? ⟨w.heap.size, 0, none⟩ = some (.slice A N c)) := (HBq.out.cell (World.block_lt_of_cell? _ _ K0.out)).trans K0.out
    clear HBq
    clear HBc
    have u1 : (e1 != 0) = true := by simpa using t1
    go_wp2
    go_ret
    exact ⟨rfl, HB.out⟩
end

section
open Go.ChangeShapes Go.WideShapes Go.ChangeAt Go.RowKit
open Go.ChangeMaps (open_string shut_string)

set_option linter.unusedVariables false
set_option maxRecDepth 100000 in
theorem walkThree_lifted (os : Os) (started : os.Started) (H : Type) (enc : TypeId × Value → H) :
    ReturnsInHanded {} Try.checked os 3 .any (Rows.walkThreeSpec.pre6 enc Try.prog Try.f3 Rows.walkThreeRow.domain false) (Rows.walkThreeSpec.post enc Try.prog Try.f3 false true false false) := by
  refine returnsInHanded_of_change_sized (C := Try.checked) own started (by kernel_rfl) Try.func3
    (ChangeSpec.witness6 (enc := enc) (C := Try.checked) false ⟨#[], #[.agg #[.slice none 0 0], .int .i64 0, .int .i64 0, .int .i64 0], []⟩ 8 (by kernel_rfl) (by kernel_rfl) (by kernel_rfl) (by kernel_rfl)) ?_
  intro W base args ds gs before hval0 hW hcnd hzz _
  have hval : ∀ (j : Nat) t v, Try.f3.params[j]? = some t → args[j]? = some v → Value.okWide Try.prog W .any base t v := hval0
  have hW' := hW
  obtain ⟨p, q, hA0, hV, rfl, hfz, hnd⟩ := hW
  have hA : DataW.TrodAll enc Try.prog W 0 (fun _ => true) true Try.f3.params.toList args.toList ds p := hA0
  rw [Try.params3] at hA hval hzz
  obtain ⟨v0, vs0, d0, ds0, p0, q0, hargs, rfl, rfl, h0, r0⟩ := trodAll_cons hA
  obtain ⟨v1, vs1, d1, ds1, p1, q1, rfl, rfl, rfl, h1, r1⟩ := trodAll_cons r0
  obtain ⟨v2, vs2, d2, ds2, p2, q2, rfl, rfl, rfl, h2, r2⟩ := trodAll_cons r1
  obtain ⟨v3, vs3, d3, ds3, p3, q3, rfl, rfl, rfl, h3, r3⟩ := trodAll_cons r2
  obtain ⟨rfl, rfl, rfl⟩ := trodAll_nil r3
  obtain rfl : args = #[v0, v1, v2, v3] := by cases args; simp_all
  obtain ⟨rfl, rfl⟩ := trodVars_none hV
  have k0 := h0
  have lt0 : ∀ x ∈ p0, x.block < W.heap.size := by obtain ⟨m, hm⟩ := k0; exact DataW.trod_lt m _ _ _ hm
  obtain ⟨A0, c0, R0, rfl, rd0, nn0⟩ := open_graph (hval 0 24 v0 rfl rfl) h0 (fun n hn => of_decide_eq_true (List.all_eq_true.1 hzz n (DataW.weights_mem_each (j := 0) (t := 24) (d := d0) rfl rfl n hn)))
  obtain ⟨x1, rfl, rfl, rfl, wx1⟩ := open_int Try.underlying3 (hval 1 3 v1 rfl rfl) h1
  have bd1 := bounds_i64 wx1
  obtain ⟨x2, rfl, rfl, rfl, wx2⟩ := open_int Try.underlying3 (hval 2 3 v2 rfl rfl) h2
  have bd2 := bounds_i64 wx2
  obtain ⟨x3, rfl, rfl, rfl, wx3⟩ := open_int Try.underlying3 (hval 3 3 v3 rfl rfl) h3
  have bd3 := bounds_i64 wx3
  clear hA0 hval0
  refine (walkThree_law A0 c0 R0 x1 x2 x3 W rd0 nn0 bd1 bd2 bd3).mono fun e W' ⟨he, bel⟩ => ?_
  subst he
  exact ⟨_, rfl, _, _, _, [], _, [], hW', trodAll_mk1 (shut_bool Try.underlying4 _), (trodAll_cons_mk (Below.trod laidOut (by kernel_rfl) (of_decide_eq_true (by kernel_rfl)) k0 bel lt0) (trodAll_cons_mk (shut_int Try.underlying3 wx1) (trodAll_cons_mk (shut_int Try.underlying3 wx2) (trodAll_cons_mk (shut_int Try.underlying3 wx3) trodAll_mk0)))), rfl, bel.frame _, fun h => by cases h⟩

theorem WalkThree_holds : Rows.WalkThreeSaid :=
  OpenClaim.holds_of_wide 3 Try.f3 rfl rfl rfl rfl rfl rfl rfl ⟨rfl, rfl, rfl, rfl, rfl⟩ rfl rfl rfl rfl rfl (by kernel_rfl) Try.func3 (by kernel_rfl)
    (of_decide_eq_true (by kernel_rfl)) (by unfold Func.isWrapper; first | (rw [if_pos (by decide +kernel)]; kernel_rfl) | (rw [if_neg (by decide +kernel)]; exact ⟨rfl, rfl⟩))
    (fun os started H enc _ => walkThree_lifted os started H enc)
#print axioms WalkThree_holds
end
end Go.Proofs.Ytnjdbcbfafbkiaa
