/- Is an arc in a list. -/
import Derived.Test.YtnbjhldpadjgfaaWEnd
import Derived.Test.YtnbjhldpadjgfaaCoJ
import Derived.Laws.AppendOwnNone
import Derived.Test.YtnbjhldpadjgfaaOpen
import Derived.Test.YtnbjhldpadjgfaaNMem
import Derived.Test.YtnbjhldpadjgfaaWChk
import Derived.Deep.Matrix
import Derived.Deep.SlicePairs
import Derived.SizedLaws
import Derived.Test.YtnbjhldpadjgfaaRN5
namespace Go.Proofs.Ytnbjhldpadjgfaa

section
section
set_option maxRecDepth 100000
set_option linter.unusedVariables false
open Go.RowKit Go.Shelf

theorem eqlA_run (a b c d : Int) (w : World) : (binOp .eql 36 (.agg #[.int .i64 a, .int .i64 b]) (.agg #[.int .i64 c, .int .i64 d])).run Try.prog w = .ok (.bool (a == c && b == d)) w := by
  have h60 := Try.underlying36
  have h3 := Try.underlying3
  by_cases h1 : a = c <;> by_cases h2 : b = d <;> simp [go_sem, h60, h3, h1, h2]
def HaRel (xs : List Ri) (z : Ri) (w : World) (p : Value) (wr : World) : Prop := ∃ i : Nat, i ≤ xs.length ∧ p = .int .i64 (i : Int) ∧ (∀ j, j < i → xs[j]?.getD (0, 0) ≠ z) ∧ Below w.heap.size w wr
end

section
set_option maxRecDepth 100000
set_option linter.unusedVariables false
open Go.RowKit Go.Shelf

/-- A graph and an error come back, and what reads as the graph lies behind what there was. -/
def GrPH (w : World) (g : List (List Nat)) (err : Int) (e : Ending) (w' : World) : Prop :=
  ∃ A R c, e = .returned (.tuple #[.agg #[.slice A g.length c], .int .i64 err]) ∧ gs R = g.map ns ∧ RdH w.heap.size w' A R ∧ Below w.heap.size w w'
set_option maxHeartbeats 1000000 in
theorem gof_okH (n : Nat) (hn : n ≤ 100) (L : List Ar) (hnd : L.Nodup) (hbd : ∀ a ∈ L, a.1 < n ∧ a.2 < n) (m : Nat) (hl : L.length = m) (hm : m ≤ 600) (A : Option Addr) (c : Nat) (w : World) (h : RdV w w.heap.size A (acs L)) :
    Calls Try.prog 17 #[.int .i64 (n : Int), .slice A m c] w (GrPH w (wa n L) 0) := by
  have HR := Lib.hid (rg_yes n hn w)
  have t1 : decide ((0 : Int) ≤ (n : Int)) = true := by simp
  have t2 : decide ((n : Int) ≤ 100) = true := by simp; omega
  have t3 : decide ((600 : Int) < (m : Int)) = false := by simp; omega
  have HC : Hid (∀ V, Below w.heap.size w V → Calls Try.prog 42 #[.slice A m c, .func (.func 80) #[] #[.pointer (some ⟨V.heap.size, 0, none⟩)]] (V.alloc (.cells #[.int .i64 (n : Int)] 3)) fun e w' => e = .returned (.int .i64 0) ∧ Below V.heap.size V w') := fun V hV => by
    have := ckarcs_any (n : Int) (by omega) V.heap.size (rz L) m (by rw [rz_length]; exact hl) hm A c (V.alloc (.cells #[.int .i64 (n : Int)] 3)) ((h.on hV).on (one_below V _)) (World.alloc_heap_new V _)
    rw [caE_ok (n : Int) L [] (by simpa using hnd) (fun a ha => by have := hbd a ha; omega)] at this
    exact this.mono fun e w' q => ⟨q.1, (one_below V _).trans (q.2.mono (by simp))⟩
  have HW : Hid (∀ V, Below w.heap.size w V → Calls Try.prog 44 #[.int .i64 (n : Int), .func (.func 82) #[] #[.pointer (some ⟨V.heap.size, 0, none⟩)]] (V.alloc (.cells #[.slice A m c] 30)) fun e w' => ∃ A2 R c2, e = .returned (.agg #[.slice A2 n c2]) ∧ gs R = (wa n L).map ns ∧ RdH (V.heap.size + 1) w' A2 R ∧ Below V.heap.size V w') := fun V hV => by
    refine (witharcs_in 82 #[.pointer (some ⟨V.heap.size, 0, none⟩)] L (by omega) (fun ys => ys = L) (fun M hM => by rw [hM]) n hn (fun a ha => (hbd a ha).1) hnd (V.alloc (.cells #[.slice A m c] 30)) entersVals1 (fun pre => pre <+: L) (fun X hX => ?_)).mono ?_
    · refine SeqStrong.of_K (Kp := Below (V.alloc (.cells #[.slice A m c] 30)).heap.size) (fun _ _ q => q.1) (vals_stops 4 (by omega) V.heap.size (V.alloc (.cells #[.slice A m c] 30)).heap.size m c A L hl (by omega) X hX.size ((hX.block _ (by simp)).trans (World.alloc_heap_new V _)) (((h.on hV).on (one_below V _)).below hX (Nat.le_refl _)))
    · rintro e w' ⟨A2, R, c2, rfl, q1, q2, q3⟩
      rw [wa_length]
      rw [World.size_alloc] at q2
      exact ⟨A2, R, c2, rfl, q1, q2, (one_below V _).trans (q3.mono (by simp))⟩
  have HL := Lib.hid (wa_length n L)
  clear hl h hnd hbd
  go_enter Try.func17, Try.ntmps17
  go_wp2_with fail
  refine HR.out.mono ?_
  rintro e w1 ⟨rfl, b1⟩
  have hz1 := b1.size
  rw [World.size_alloc] at hz1
  have HB := Lib.hid b1
  clear b1
  go_wp2_with fail
  refine (isnodeof_any (n : Int) w1).mono ?_
  rintro e w2 ⟨rfl, rfl⟩
  go_wp2_with fail
  refine (HC.out w1 ((one_below w _).trans (HB.out.mono (by omega)))).mono ?_
  rintro e w3 ⟨rfl, b3⟩
  have HB3 : Hid (Below (w.heap.size + 1) (w.alloc (.cells #[.slice none 0 0] 24)) w3 ∧ w.heap.size + 1 ≤ w3.heap.size) := ⟨HB.out.trans (b3.mono hz1), by have := b3.size; omega⟩
  clear b3
  go_wp2_with fail
  refine (vals_in A m c w3).mono ?_
  rintro e w4 ⟨rfl, rfl⟩
  go_wp2_with fail
  refine (HW.out w3 ((one_below w _).trans (HB3.out.1.mono (by omega)))).mono ?_
  rintro e w5 ⟨A2, R, c2, rfl, q1, q2, b5⟩
  have b5' := HB3.out.1.trans (b5.mono HB3.out.2)
  obtain ⟨kr, kf, kz⟩ := res_box b5'
  have HS := Lib.hid (res_set b5' (.slice A2 n c2))
  have HQ : Hid (gs R = (wa n L).map ns ∧ RdH w.heap.size (w5.setCell ⟨w.heap.size, 0, none⟩ (.slice A2 n c2)) A2 R) := by
    have hsz : (w5.setCell ⟨w.heap.size, 0, none⟩ (.slice A2 n c2)).heap.size = w5.heap.size := by simp [World.setCell]
    exact ⟨q1, fun W hk hW => q2 W (fun k h1 h2 => (hk k (by have := HB3.out.2; omega) (by rw [hsz]; exact h2)).trans (Below.heap_setCell _ _ _ _ (by have := HB3.out.2; show k ≠ w.heap.size; omega))) (by rw [hsz] at hW; exact hW)⟩
  have kr2 := HS.out.1
  clear b5 b5' q1 q2
  go_wp2
  refine bodyPost_ret (v := .tuple #[.agg #[.slice A2 n c2], .int .i64 0]) (by simp [results, Try.results17, go_sem, kr2]) rfl ?_
  exact ⟨A2, R, c2, by rw [HL.out], HQ.out.1, HQ.out.2, HS.out.2⟩
theorem grp_nil {w : World} {err : Int} {e : Ending} {w' : World} (h : GrP w [] err e w') : GrPH w [] err e w' := by
  obtain ⟨A, R, c, h1, h2, h3, h4⟩ := h
  have hR : R = [] := by have := congrArg List.length h2; rw [gs_length] at this; exact List.eq_nil_of_length_eq_zero this
  subst hR
  exact ⟨A, [], c, h1, h2, fun W _ _ => ⟨.inl rfl, fun r hr => by simp at hr⟩, h4⟩
theorem caE_snoc (N : Int) (p : Ri) : ∀ (L S : List Ar), (S ++ L).Nodup → (∀ a ∈ L, (a.1 : Int) < N ∧ (a.2 : Int) < N) → caE N S (rz L ++ [p]) = caO N (S ++ L) p
  | [], S, _, _ => by
    show caE N S [p] = _
    rw [caE_cons, List.append_nil]
    show (if caO N S p = 0 then 0 else caO N S p) = _
    split
    · rename_i h; exact h.symm
    · rfl
  | a :: t, S, hn, hb => by
    have ha := hb a (by simp)
    have hna : a ∉ S := fun hm => (List.nodup_append.1 hn).2.2 a hm a (by simp) rfl
    have h0 := caO_of (S := S) ha.1 ha.2 hna
    show caE N S (((a.1 : Int), (a.2 : Int)) :: (rz t ++ [p])) = _
    rw [caE_cons, if_pos h0]
    have e : toA ((a.1 : Int), (a.2 : Int)) = a := by unfold toA; simp
    rw [e, caE_snoc N p t (S ++ [a]) (by simpa using hn) (fun b hb' => hb b (by simp [hb']))]
    simp
/-- What graph.Of says of the arcs of a graph and one more. -/
theorem of_more (g : List (List Nat)) (hok : GOk g) (L : List Ar) (hL : arcs 0 g = L) (xa xb : Int) : ∃ (g1 : List (List Nat)) (e1 : Int),
    (∀ A c V, RdV V V.heap.size A (rcs (rz L ++ [(xa, xb)])) → Calls Try.prog 17 #[.int .i64 (g.length : Int), .slice A (L.length + 1) c] V (GrPH V g1 e1)) ∧
    (((e1 = 3 ∨ e1 = 2) ∧ g1 = []) ∨ (e1 = 6 ∧ g1 = [] ∧ (xa, xb) ∈ rz L) ∨ (e1 = 0 ∧ ∃ i j : Nat, xa = i ∧ xb = j ∧ i < g.length ∧ j < g.length ∧ L.length + 1 ≤ 600 ∧ g1 = wa g.length (L ++ [(i, j)]) ∧ (L ++ [(i, j)]).Nodup)) := by
  have hnd : L.Nodup := hL ▸ arcs_nodup g 0 hok.ris
  have hbd : ∀ a ∈ L, a.1 < g.length ∧ a.2 < g.length := fun a ha => arcs_bd hok a (by rw [hL]; exact ha)
  have h100 := hok.nodes
  have h600 := hok.many
  rw [hL] at h600
  have hzl : (rz L ++ [(xa, xb)]).length = L.length + 1 := by rw [List.length_append, rz_length]; rfl
  by_cases h6 : 600 < L.length + 1
  · exact ⟨[], 2, fun A c V h => (gof_many g.length h100 A (L.length + 1) c h6 V).mono fun e w' q => grp_nil q, .inl ⟨.inr rfl, rfl⟩⟩
  have hce := caE_snoc (g.length : Int) (xa, xb) L [] (by simpa using hnd) (fun a ha => by have := hbd a ha; omega)
  rw [List.nil_append] at hce
  by_cases hin : okG (g.length : Int) xa = true ∧ okG (g.length : Int) xb = true
  · obtain ⟨h1, h2⟩ := hin
    have h1' := h1
    have h2' := h2
    unfold okG at h1 h2
    simp only [decide_eq_true_eq] at h1 h2
    obtain ⟨i, rfl⟩ := Int.eq_ofNat_of_zero_le h1.1
    obtain ⟨j, rfl⟩ := Int.eq_ofNat_of_zero_le h2.1
    have et : toA ((i : Int), (j : Int)) = (i, j) := by unfold toA; simp
    by_cases hm : (i, j) ∈ L
    · have e6 : caO (g.length : Int) L ((i : Int), (j : Int)) = 6 := by unfold caO; rw [if_pos ⟨h1', h2'⟩, et, if_pos hm]
      rw [e6] at hce
      exact ⟨[], 6, fun A c V h => (gof_arcs g.length h100 _ (L.length + 1) hzl (by omega) 6 hce (by decide) A c V h).mono fun e w' q => grp_nil q, .inr (.inl ⟨rfl, rfl, List.mem_map.2 ⟨(i, j), hm, rfl⟩⟩)⟩
    · have hn2 : (L ++ [(i, j)]).Nodup := List.nodup_append.2 ⟨hnd, by simp, by rintro x hx y hy rfl; simp at hy; subst hy; exact hm hx⟩
      refine ⟨wa g.length (L ++ [(i, j)]), 0, fun A c V h => ?_, .inr (.inr ⟨rfl, i, j, rfl, rfl, by omega, by omega, by omega, rfl, hn2⟩)⟩
      have ez : rz L ++ [((i : Int), (j : Int))] = rz (L ++ [(i, j)]) := by unfold rz; rw [List.map_append]; rfl
      rw [ez] at h
      exact gof_okH g.length h100 (L ++ [(i, j)]) hn2 (fun a ha => by
        rcases List.mem_append.1 ha with q | q
        · exact hbd a q
        · simp at q; subst q; exact ⟨by omega, by omega⟩) (L.length + 1) (by simp) (by omega) A c V h
  · have e3 : caO (g.length : Int) L (xa, xb) = 3 := by unfold caO; rw [if_neg hin]
    rw [e3] at hce
    exact ⟨[], 3, fun A c V h => (gof_arcs g.length h100 _ (L.length + 1) hzl (by omega) 3 hce (by decide) A c V h).mono fun e w' q => grp_nil q, .inl ⟨.inl rfl, rfl⟩⟩
end
end

section
set_option maxRecDepth 100000
set_option linter.unusedVariables false
open Go.RowKit Go.Shelf

theorem acs_append (a b : List Ar) : acs (a ++ b) = acs a ++ acs b := by unfold acs rz; rw [List.map_append, rcs_append]
theorem acs_one (L : List Ar) : ∀ u ∈ acs L, u.oneCell' = true := fun u hu => rcs_one _ u hu
theorem rdv_cells {w : World} {B b off : Nat} {vs : List Value} (h : RdV w B (some ⟨b, off, none⟩) vs) (i : Nat) (v : Value) (hi : vs[i]? = some v) : b < B ∧ w.cell? ⟨b, off + i, none⟩ = some v := by
  obtain ⟨b2, o2, e, h1, h2⟩ := h.at_ hi
  simp only [Option.some.injEq, Addr.mk.injEq, and_true] at e
  obtain ⟨rfl, rfl⟩ := e
  exact ⟨h1, h2⟩
/-- An append of arcs to a list of the call's own, at a step of a region that draws its order. -/
theorem arcs_at {w : World} {ops : Array Oper} {o : Oper} {a : Act} {K : Act → World → Prop} {Q : Exit → Act → World → Prop} {E : Prop} (hgd : o.guard = none) (s x : Operand)
    (ho : o.op = .call { callee := .builtin .append, args := #[s, x], argTypes := #[30, 30] }) (base : Nat)
    (v : Value) (n : Nat) (xs : List Value) (hs : a.eval s = v) (hown : w.ownsRow base 36 2 v n xs)
    (b off m c : Nat) (news : List Value) (hx : a.eval x = .slice (some ⟨b, off, none⟩) m c) (hl : news.length = m * 2) (hc : ∀ j u, news[j]? = some u → w.cell? ⟨b, off + j, none⟩ = some u) (h1 : ∀ u ∈ news, u.oneCell' = true)
    (hb : n + m ≤ 1000000) (hbase : base ≤ w.heap.size)
    (h : ∀ v' w', w'.ownsRow base 36 2 v' (n + m) (xs ++ news) → w.grownBy w' v.ownBlock → (v'.ownBlock = v.ownBlock ∨ v'.ownBlock = some w.heap.size) → K (a.put o.dst v') w') : if Region.wanted o (yielded ops a.tmps) = true then Oper.wp Try.prog o a w K Q else E := by
  have hw : Region.wanted o (yielded ops a.tmps) = true := by simp [Region.wanted, hgd]
  rw [if_pos hw]
  obtain ⟨i0, hi, hz0, hz1, hz2⟩ := info_parts info_arc
  obtain ⟨v', w', hrun, h2, h3, h5, h4⟩ := run_append_own_at (P := Try.prog) w base 30 o.type 36 i0 (.agg #[.int .i64 0, .int .i64 0]) 2 16 Try.underlying30 hi hz0 hz1 hz2 rfl (by decide) v n xs hown ⟨b, off, none⟩ m c news hl (fun j u hj => by
    have : (⟨b, off, none⟩ : Addr).add j = ⟨b, off + j, none⟩ := by unfold Addr.add; split <;> simp_all
    rw [this]; exact hc j u hj) h1 (by unfold maxLen; omega) (by omega) hbase
  unfold Oper.wp execOp
  simp only [ho, resolve, invoke, builtin, Sem.run_bind, Sem.run_pure, Result.andThen_ok, List.map_toArray, List.map_cons, List.map_nil, hs, hx, hrun]
  exact h v' w' h2 h3 h4
theorem rdv_add {w : World} {B : Nat} {A : Option Addr} {vs : List Value} (h : RdV w B A vs) (ad : Addr) (hA : A = some ad) (j : Nat) (u : Value) (hj : vs[j]? = some u) : w.cell? (ad.add j) = some u := by
  obtain ⟨b2, o2, e, h1, h2⟩ := h.at_ hj
  rw [hA] at e
  cases e
  have : (⟨b2, o2, none⟩ : Addr).add j = ⟨b2, o2 + j, none⟩ := by unfold Addr.add; split <;> simp_all
  rw [this]; exact h2
/-- An append of arcs that are nil or not. -/
theorem arcs_atN {w : World} {ops : Array Oper} {o : Oper} {a : Act} {K : Act → World → Prop} {Q : Exit → Act → World → Prop} {E : Prop} (hgd : o.guard = none) (s x : Operand)
    (ho : o.op = .call { callee := .builtin .append, args := #[s, x], argTypes := #[30, 30] }) (base : Nat)
    (v : Value) (n : Nat) (xs : List Value) (hs : a.eval s = v) (hown : w.ownsRow base 36 2 v n xs)
    (A : Option Addr) (m c : Nat) (news : List Value) (hx : a.eval x = .slice A m c) (hN : A = none → c = 0) (hmc : m ≤ c) (hl : news.length = m * 2) (hc : RdV w w.heap.size A news) (h1 : ∀ u ∈ news, u.oneCell' = true)
    (hb : n + m ≤ 1000000) (hbase : base ≤ w.heap.size)
    (h : ∀ v' w', w'.ownsRow base 36 2 v' (n + m) (xs ++ news) → w.grownBy w' v.ownBlock → (v'.ownBlock = v.ownBlock ∨ v'.ownBlock = some w.heap.size) → K (a.put o.dst v') w') : if Region.wanted o (yielded ops a.tmps) = true then Oper.wp Try.prog o a w K Q else E := by
  have hw : Region.wanted o (yielded ops a.tmps) = true := by simp [Region.wanted, hgd]
  rw [if_pos hw]
  obtain ⟨i0, hi, hz0, hz1, hz2⟩ := info_parts info_arc
  cases A with
  | none =>
    obtain rfl := hN rfl
    obtain rfl : m = 0 := by omega
    obtain rfl : news = [] := List.eq_nil_of_length_eq_zero (by omega)
    have hrun := run_append_owned_none (P := Try.prog) (w := w) base 30 o.type 36 i0 2 Try.underlying30 hi v n xs hown
    unfold Oper.wp execOp
    simp only [ho, resolve, invoke, builtin, Sem.run_bind, Sem.run_pure, Result.andThen_ok, List.map_toArray, List.map_cons, List.map_nil, hs, hx, hrun]
    exact h v w (by rw [List.append_nil]; exact hown) (by constructor <;> simp) (.inl rfl)
  | some ad =>
    obtain ⟨v', w', hrun, h2, h3, h5, h4⟩ := run_append_own_at (P := Try.prog) w base 30 o.type 36 i0 (.agg #[.int .i64 0, .int .i64 0]) 2 16 Try.underlying30 hi hz0 hz1 hz2 rfl (by decide) v n xs hown ad m c news hl (rdv_add hc ad rfl) h1 (by unfold maxLen; omega) (by omega) hbase
    unfold Oper.wp execOp
    simp only [ho, resolve, invoke, builtin, Sem.run_bind, Sem.run_pure, Result.andThen_ok, List.map_toArray, List.map_cons, List.map_nil, hs, hx, hrun]
    exact h v' w' h2 h3 h4
theorem own_blk_lt {w : World} {base n r : Nat} {e : TypeId} {v : Value} {xs : List Value} (h : w.ownsRow base e 2 v n xs) (hr : v.ownBlock = some r) : r < w.heap.size := by
  rcases h.2 with ⟨h, _⟩ | ⟨g, cap, cur, h, _, hg, _⟩
  · subst h; cases hr
  · subst h; cases hr; exact (Array.getElem?_eq_some_iff.1 hg).1
theorem RdH.on {lo : Nat} {w w' : World} {A : Option Addr} {R : List Rw} (h : RdH lo w A R) (hb : Below w.heap.size w w') : RdH lo w' A R :=
  fun W hk hW => h W (fun k h1 h2 => (hk k h1 (Nat.lt_of_lt_of_le h2 hb.size)).trans (hb.block k h2)) (Nat.le_trans hb.size hW)

theorem near_more {g k : List (List Nat)} {N i j : Nat} (hk : ∀ a x, a < N → (x ∈ row k a ↔ x ∈ row g a ∨ (a = i ∧ x = j))) {a b : Nat} (ha : a < N) (hb : b < N) : near k a b = true ↔ near g a b = true ∨ (a ≠ b ∧ ((a = i ∧ b = j) ∨ (a = j ∧ b = i))) := by
  rw [near_iff, near_iff, hk a b ha, hk b a hb]
  constructor
  · rintro ⟨h1, (h2 | ⟨h2, h3⟩) | (h2 | ⟨h2, h3⟩)⟩
    · exact .inl ⟨h1, .inl h2⟩
    · exact .inr ⟨h1, .inl ⟨h2, h3⟩⟩
    · exact .inl ⟨h1, .inr h2⟩
    · exact .inr ⟨h1, .inr ⟨h3, h2⟩⟩
  · rintro (⟨h1, h2 | h2⟩ | ⟨h1, ⟨h2, h3⟩ | ⟨h2, h3⟩⟩)
    · exact ⟨h1, .inl (.inl h2)⟩
    · exact ⟨h1, .inr (.inl h2)⟩
    · exact ⟨h1, .inl (.inr ⟨h2, h3⟩)⟩
    · exact ⟨h1, .inr (.inr ⟨h3, h2⟩)⟩
set_option maxHeartbeats 16000000 in
theorem coreMore_law (A : Option Addr) (c : Nat) (R : List Rw) (xa xb : Int) (w : World) (hA : RdG w w.heap.size A R) (hn : R.length ≤ 140737488355328) (hxa : -9223372036854775808 ≤ xa ∧ xa ≤ 9223372036854775807) (hxb : -9223372036854775808 ≤ xb ∧ xb ≤ 9223372036854775807) :
    Calls Try.prog 9 #[.agg #[.slice A R.length c], .agg #[.int .i64 xa, .int .i64 xb]] w fun e w' => e = .returned (.bool true) ∧ Below w.heap.size w w' := by
  clear hxa hxb
  obtain ⟨N, hN⟩ : ∃ N, R.length = N := ⟨_, rfl⟩
  rw [hN] at hn ⊢
  by_cases e0 : grE (gs R) = 0
  · obtain ⟨g, hg, hok⟩ := grE_zero _ e0
    have hgl : g.length = N := by have := congrArg List.length hg; rw [gs_length, List.length_map] at this; omega
    have hN1 : N ≤ 100 := by have := hok.nodes; omega
    have HOk : Hid (GOk g ∧ g.length = N) := ⟨hok, hgl⟩
    have HG0 := Lib.hid hg
    have h600 := hok.many
    obtain ⟨l, hl⟩ := cn_list (near g) N
    have HLn0 := Lib.hid hl
    have HNu := Lib.hid (lw_num R g hg hok N hgl l hl)
    have HTh := Lib.hid (lw_thr R g hg hok N hgl)
    have HT : Hid (∀ A c V, RdG V V.heap.size A R → Calls Try.prog 16 #[.agg #[.slice A N c]] V (ArcsP V (arcs 0 g) 0)) := fun A c V h => garcs_ok R g hg hok N hN e0 A c V h
    obtain ⟨L, hL⟩ : ∃ L, arcs 0 g = L := ⟨_, rfl⟩
    obtain ⟨g1, e1, hof, hcs⟩ := of_more g hok L hL xa xb
    rw [hgl] at hof hcs
    rw [hL] at HT h600
    obtain ⟨n, hln⟩ : ∃ n, L.length = n := ⟨_, rfl⟩
    rw [hln] at h600 hof hcs
    obtain ⟨N1, hN1l⟩ : ∃ N1, g1.length = N1 := ⟨_, rfl⟩
    unfold GrPH at hof
    rw [hN1l] at hof
    have HO := Lib.hid hof
    have HCs := Lib.hid hcs
    unfold ArcsP at HT
    rw [hln] at HT
    have HLn := Lib.hid (⟨hln, hN1l, hL⟩ : _ ∧ _ ∧ _)
    have HSy : Hid (∀ i m, near g i m = near g m i) := near_comm g
    have hT6 := trs_bd (near g) N hN1
    clear e0 hN hn hg hok hgl hL hln hof hcs hN1l hl
    obtain ⟨many, hmany⟩ : ∃ many, (trs (near g) N).length = many := ⟨_, rfl⟩
    rw [hmany] at HTh hT6
    have HMany := Lib.hid hmany; clear hmany
    have HB : Hid (Below w.heap.size w w) := Below.refl _ w
    have HR := Lib.hid hA; clear hA
    go_enter Try.func9, Try.ntmps9
    have HBq : Hid (Below w.heap.size w (w.alloc (.cells #[.slice A N c] 24))) := one_below _ _
    replace HB : Hid (Below w.heap.size w (w.alloc (.cells #[.slice A N c] 24))) := HB.out.trans (HBq.out.mono HB.out.size)
    replace HR : Hid (RdG (w.alloc (.cells #[.slice A N c] 24)) ((w.alloc (.cells #[.slice A N c] 24))).heap.size A R) := HR.out.on HBq.out
    clear HBq
    have K0 : Hid (((w.alloc (.cells #[.slice A N c] 24))).cell? ⟨w.heap.size, 0, none⟩ = some (.slice A N c)) := (cell_at (World.alloc_heap_new w _) 0).trans rfl
    have hK1a : (w.alloc (.cells #[.slice A N c] 24)).heap.size = w.heap.size + 1 := World.size_alloc _ _
    have HBq : Hid (Below (w.alloc (.cells #[.slice A N c] 24)).heap.size (w.alloc (.cells #[.slice A N c] 24)) ((w.alloc (.cells #[.slice A N c] 24)).alloc (.cells #[.int .i64 xa, .int .i64 xb] 36))) := one_below _ _
    replace HB : Hid (Below w.heap.size w ((w.alloc (.cells #[.slice A N c] 24)).alloc (.cells #[.int .i64 xa, .int .i64 xb] 36))) := HB.out.trans (HBq.out.mono HB.out.size)
    replace HR : Hid (RdG ((w.alloc (.cells #[.slice A N c] 24)).alloc (.cells #[.int .i64 xa, .int .i64 xb] 36)) (((w.alloc (.cells #[.slice A N c] 24)).alloc (.cells #[.int .i64 xa, .int .i64 xb] 36))).heap.size A R) := HR.out.on HBq.out
    replace K0 : Hid ((((w.alloc (.cells #[.slice A N c] 24)).alloc (.cells #[.int .i64 xa, .int .i64 xb] 36))).cell? ⟨w.heap.size, 0, none⟩ = some (.slice A N c)) := (HBq.out.cell (World.block_lt_of_cell? _ _ K0.out)).trans K0.out
    clear HBq
    obtain ⟨w0, hw0⟩ : ∃ V, (w.alloc (.cells #[.slice A N c] 24)).alloc (.cells #[.int .i64 xa, .int .i64 xb] 36) = V := ⟨_, rfl⟩
    have Ka : Hid ((((w.alloc (.cells #[.slice A N c] 24)).alloc (.cells #[.int .i64 xa, .int .i64 xb] 36))).cell? ⟨w.heap.size + 1, 0, none⟩ = some (.int .i64 xa)) := by show _ = _; rw [← hK1a]; exact (cell_at (World.alloc_heap_new (w.alloc (.cells #[.slice A N c] 24)) _) 0).trans rfl
    have Kb : Hid ((((w.alloc (.cells #[.slice A N c] 24)).alloc (.cells #[.int .i64 xa, .int .i64 xb] 36))).cell? ⟨w.heap.size + 1, 1, none⟩ = some (.int .i64 xb)) := by show _ = _; rw [← hK1a]; exact (cell_at (World.alloc_heap_new (w.alloc (.cells #[.slice A N c] 24)) _) 1).trans rfl
    rw [hw0] at HB
    rw [hw0] at HR
    rw [hw0] at K0
    rw [hw0] at Ka
    rw [hw0] at Kb
    have HW0 := Lib.hid hw0; clear hw0 hK1a
    have HC := Lib.hid (HNu.out A c _ HR.out)
    rw [← HW0.out] at HC
    have k_0 := K0.out; rw [← HW0.out] at k_0
    go_wp2_with fail
    clear k_0
    refine HC.out.mono ?_
    rw [HW0.out]
    rintro e w1 ⟨b1, rfl, q1, bq⟩
    clear HC
    have HBc := Lib.hid bq; clear bq
    have HBq : Hid (Below w0.heap.size w0 w1) := HBc.out
    replace HB : Hid (Below w.heap.size w w1) := HB.out.trans (HBq.out.mono HB.out.size)
    replace HR : Hid (RdG w1 (w1).heap.size A R) := HR.out.on HBq.out
    replace K0 : Hid ((w1).cell? ⟨w.heap.size, 0, none⟩ = some (.slice A N c)) := (HBq.out.cell (World.block_lt_of_cell? _ _ K0.out)).trans K0.out
    replace Ka : Hid ((w1).cell? ⟨w.heap.size + 1, 0, none⟩ = some (.int .i64 xa)) := (HBq.out.cell (World.block_lt_of_cell? _ _ Ka.out)).trans Ka.out
    replace Kb : Hid ((w1).cell? ⟨w.heap.size + 1, 1, none⟩ = some (.int .i64 xb)) := (HBq.out.cell (World.block_lt_of_cell? _ _ Kb.out)).trans Kb.out
    clear HBq
    clear HBc
    have Q1 : Hid (RdV w1 (w1).heap.size (some ⟨b1, 0, none⟩) (zc (ns l))) := q1
    clear q1
    have HC := Lib.hid (HTh.out A c _ HR.out)
    have k_K0 := K0.out
    go_wp2_with fail
    clear k_K0
    refine HC.out.mono ?_
    rintro e w2 ⟨b2, rfl, -, bq⟩
    clear HC
    have HBc := Lib.hid bq; clear bq
    have HBq : Hid (Below w1.heap.size w1 w2) := HBc.out
    replace HB : Hid (Below w.heap.size w w2) := HB.out.trans (HBq.out.mono HB.out.size)
    replace HR : Hid (RdG w2 (w2).heap.size A R) := HR.out.on HBq.out
    replace K0 : Hid ((w2).cell? ⟨w.heap.size, 0, none⟩ = some (.slice A N c)) := (HBq.out.cell (World.block_lt_of_cell? _ _ K0.out)).trans K0.out
    replace Ka : Hid ((w2).cell? ⟨w.heap.size + 1, 0, none⟩ = some (.int .i64 xa)) := (HBq.out.cell (World.block_lt_of_cell? _ _ Ka.out)).trans Ka.out
    replace Kb : Hid ((w2).cell? ⟨w.heap.size + 1, 1, none⟩ = some (.int .i64 xb)) := (HBq.out.cell (World.block_lt_of_cell? _ _ Kb.out)).trans Kb.out
    replace Q1 : Hid (RdV w2 (w2).heap.size (some ⟨b1, 0, none⟩) (zc (ns l))) := Q1.out.on HBq.out
    clear HBq
    clear HBc
    have HC := Lib.hid (HT.out A c _ HR.out)
    have k_K0 := K0.out
    go_wp2_with fail
    clear k_K0
    refine HC.out.mono ?_
    rintro e w3 ⟨A1, c1, rfl, hcp, h1, bq⟩
    clear HC
    have HBc := Lib.hid bq; clear bq
    have HBq : Hid (Below w2.heap.size w2 w3) := HBc.out
    replace HB : Hid (Below w.heap.size w w3) := HB.out.trans (HBq.out.mono HB.out.size)
    replace HR : Hid (RdG w3 (w3).heap.size A R) := HR.out.on HBq.out
    replace K0 : Hid ((w3).cell? ⟨w.heap.size, 0, none⟩ = some (.slice A N c)) := (HBq.out.cell (World.block_lt_of_cell? _ _ K0.out)).trans K0.out
    replace Ka : Hid ((w3).cell? ⟨w.heap.size + 1, 0, none⟩ = some (.int .i64 xa)) := (HBq.out.cell (World.block_lt_of_cell? _ _ Ka.out)).trans Ka.out
    replace Kb : Hid ((w3).cell? ⟨w.heap.size + 1, 1, none⟩ = some (.int .i64 xb)) := (HBq.out.cell (World.block_lt_of_cell? _ _ Kb.out)).trans Kb.out
    replace Q1 : Hid (RdV w3 (w3).heap.size (some ⟨b1, 0, none⟩) (zc (ns l))) := Q1.out.on HBq.out
    clear HBq
    clear HBc
    have H1 : Hid (RdV w3 (w3).heap.size A1 (acs L)) := h1
    clear h1
    have HC := Lib.hid (corebegun_true w3)
    go_wp2_with fail
    refine HC.out.mono ?_
    rintro e w4 ⟨rfl, bq⟩
    clear HC
    have HBc := Lib.hid bq; clear bq
    have HBq : Hid (Below w3.heap.size w3 w4) := HBc.out
    replace HB : Hid (Below w.heap.size w w4) := HB.out.trans (HBq.out.mono HB.out.size)
    replace HR : Hid (RdG w4 (w4).heap.size A R) := HR.out.on HBq.out
    replace K0 : Hid ((w4).cell? ⟨w.heap.size, 0, none⟩ = some (.slice A N c)) := (HBq.out.cell (World.block_lt_of_cell? _ _ K0.out)).trans K0.out
    replace Ka : Hid ((w4).cell? ⟨w.heap.size + 1, 0, none⟩ = some (.int .i64 xa)) := (HBq.out.cell (World.block_lt_of_cell? _ _ Ka.out)).trans Ka.out
    replace Kb : Hid ((w4).cell? ⟨w.heap.size + 1, 1, none⟩ = some (.int .i64 xb)) := (HBq.out.cell (World.block_lt_of_cell? _ _ Kb.out)).trans Kb.out
    replace Q1 : Hid (RdV w4 (w4).heap.size (some ⟨b1, 0, none⟩) (zc (ns l))) := Q1.out.on HBq.out
    replace H1 : Hid (RdV w4 (w4).heap.size A1 (acs L)) := H1.out.on HBq.out
    clear HBq
    clear HBc
    have HC := Lib.hid (graphbegun_true w4)
    go_wp2_with fail
    refine HC.out.mono ?_
    rintro e w5 ⟨rfl, bq⟩
    clear HC
    have HBc := Lib.hid bq; clear bq
    have HBq : Hid (Below w4.heap.size w4 w5) := HBc.out
    replace HB : Hid (Below w.heap.size w w5) := HB.out.trans (HBq.out.mono HB.out.size)
    replace HR : Hid (RdG w5 (w5).heap.size A R) := HR.out.on HBq.out
    replace K0 : Hid ((w5).cell? ⟨w.heap.size, 0, none⟩ = some (.slice A N c)) := (HBq.out.cell (World.block_lt_of_cell? _ _ K0.out)).trans K0.out
    replace Ka : Hid ((w5).cell? ⟨w.heap.size + 1, 0, none⟩ = some (.int .i64 xa)) := (HBq.out.cell (World.block_lt_of_cell? _ _ Ka.out)).trans Ka.out
    replace Kb : Hid ((w5).cell? ⟨w.heap.size + 1, 1, none⟩ = some (.int .i64 xb)) := (HBq.out.cell (World.block_lt_of_cell? _ _ Kb.out)).trans Kb.out
    replace Q1 : Hid (RdV w5 (w5).heap.size (some ⟨b1, 0, none⟩) (zc (ns l))) := Q1.out.on HBq.out
    replace H1 : Hid (RdV w5 (w5).heap.size A1 (acs L)) := H1.out.on HBq.out
    clear HBq
    clear HBc
    clear HNu HTh HT HW0
    have k0 := K0.out; have ka := Ka.out; have kb := Kb.out
    go_wp2_with fail
    generalize hQ : Exit.then _ _ = Q
    have HRest : Hid (∀ (W : World) (b3 b7 b13 : Nat) (v5 v8 : Value) (A4 : Option Addr) (R4 : List Rw) (c4 : Nat), Below w5.heap.size w5 W → W.heap[b13]? = some (.cells #[.slice A4 N1 c4] 24 (0, 0)) → gs R4 = g1.map ns → RdG W W.heap.size A4 R4 → Q .normal { tmps := #[.agg #[.slice A N c], .agg #[.int .i64 xa, .int .i64 xb], .pointer (some ⟨w.heap.size, 0, none⟩), .pointer (some ⟨w.heap.size + 1, 0, none⟩), .bool false, .slice (some ⟨b1, 0, none⟩) N N, .int .i64 0, .slice (some ⟨b2, 0, none⟩) N N, .int .i64 (many : Int), .int .i64 0, .slice A1 n c1, .int .i64 0, .pointer (some ⟨b13, 0, none⟩), .int .i64 e1, undef, undef, undef, undef, undef, undef, .tuple #[.slice (some ⟨b1, 0, none⟩) N N, .int .i64 0], .agg #[.slice A N c], .tuple #[.slice (some ⟨b1, 0, none⟩) N N, .int .i64 0], .slice (some ⟨b1, 0, none⟩) N N, .int .i64 0, .tuple #[.slice (some ⟨b2, 0, none⟩) N N, .int .i64 (many : Int), .int .i64 0], .agg #[.slice A N c], .tuple #[.slice (some ⟨b2, 0, none⟩) N N, .int .i64 (many : Int), .int .i64 0], .slice (some ⟨b2, 0, none⟩) N N, .int .i64 (many : Int), .int .i64 0, .tuple #[.slice A1 n c1, .int .i64 0], .agg #[.slice A N c], .tuple #[.slice A1 n c1, .int .i64 0], .slice A1 n c1, .int .i64 0, .bool true, .bool false, .bool false, .bool true, .bool false, .bool false, .int .i64 0, .bool false, .bool false, .int .i64 0, .bool false, .bool false, .bool false, .int .i64 0, .bool false, .bool false, undef, undef, undef, .tuple #[.agg #[.slice A4 N1 c4], .int .i64 e1], .pointer (some ⟨w.heap.size, 0, none⟩), .slice A N c, .int .i64 (N : Int), .slice (some ⟨b3, 0, none⟩) 0 0, .slice A1 n c1, v5, .agg #[.int .i64 xa, .int .i64 xb], .slice (some ⟨b7, 0, none⟩) 1 1, v8, .tuple #[.agg #[.slice A4 N1 c4], .int .i64 e1], .agg #[.slice A4 N1 c4], .int .i64 e1, undef, undef, undef, undef, undef, undef, undef, undef, undef, undef, undef, undef, undef, undef, undef, undef, undef, undef, undef, undef, undef, undef, undef, undef, undef, undef, undef, undef, undef, undef, undef, undef, undef, undef, undef, undef, undef, undef, undef, undef, undef, undef, undef, undef, undef, undef, undef, undef, undef, undef, undef, undef, undef, undef, undef, undef, undef, undef], defers := [] } W) := by
     as_aux_lemma =>
      intro W b3 b7 b13 v5 v8 A4 R4 c4 lo a13 q1 hG4
      rw [← hQ]
      clear hQ k0 ka kb H1 hcp
      have HBq : Hid (Below w5.heap.size w5 W) := lo
      replace HB : Hid (Below w.heap.size w W) := HB.out.trans (HBq.out.mono HB.out.size)
      replace HR : Hid (RdG W (W).heap.size A R) := HR.out.on HBq.out
      replace K0 : Hid ((W).cell? ⟨w.heap.size, 0, none⟩ = some (.slice A N c)) := (HBq.out.cell (World.block_lt_of_cell? _ _ K0.out)).trans K0.out
      replace Ka : Hid ((W).cell? ⟨w.heap.size + 1, 0, none⟩ = some (.int .i64 xa)) := (HBq.out.cell (World.block_lt_of_cell? _ _ Ka.out)).trans Ka.out
      replace Kb : Hid ((W).cell? ⟨w.heap.size + 1, 1, none⟩ = some (.int .i64 xb)) := (HBq.out.cell (World.block_lt_of_cell? _ _ Kb.out)).trans Kb.out
      replace Q1 : Hid (RdV W (W).heap.size (some ⟨b1, 0, none⟩) (zc (ns l))) := Q1.out.on HBq.out
      clear HBq
      have K4 : Hid ((W).cell? ⟨b13, 0, none⟩ = some (.slice A4 N1 c4)) := (cell_at a13 0).trans rfl
      have H4 : Hid (RdG W (W).heap.size A4 R4) := hG4
      clear lo a13 hG4
      rcases HCs.out with ⟨h2, hg⟩ | ⟨h2, hg, -⟩ | ⟨h0, i, j, ei, ej, hi, hj, h6, hg, hnd⟩
      · rcases h2 with h2 | h2
        · subst h2; clear hg; go_wp2; go_ret; exact ⟨rfl, HB.out⟩
        · subst h2; clear hg; go_wp2; go_ret; exact ⟨rfl, HB.out⟩
      · subst h2; clear hg; go_wp2; go_ret; exact ⟨rfl, HB.out⟩
      · subst h0 hg
        obtain rfl : N = N1 := by have := HLn.out.2.1; rw [wa_length] at this; exact this
        have hbd2 : ∀ a ∈ L ++ [(i, j)], a.1 < N ∧ a.2 < N := fun a ha => by
          rcases List.mem_append.1 ha with z | z
          · have := arcs_bd HOk.out.1 a (by rw [HLn.out.2.2]; exact z); rw [HOk.out.2] at this; exact this
          · simp at z; subst z; exact ⟨hi, hj⟩
        have hok2 : GOk (wa N (L ++ [(i, j)])) := wa_ok hN1 hnd hbd2 (by rw [List.length_append, HLn.out.1]; exact h6)
        have hmm : ∀ a x, a < N → (x ∈ row (wa N (L ++ [(i, j)])) a ↔ x ∈ row g a ∨ (a = i ∧ x = j)) := fun a x ha => by
          rw [wa_mem _ _ _ _ ha, List.mem_append, ← HLn.out.2.2]
          refine or_congr (arcs_mem0 g (a, x)) ?_
          simp
        have hn2 : ∀ a b, a < N → b < N → (near (wa N (L ++ [(i, j)])) a b = true ↔ near g a b = true ∨ (a ≠ b ∧ ((a = i ∧ b = j) ∨ (a = j ∧ b = i)))) := fun a b ha hb => near_more hmm ha hb
        have hlw : (wa N (L ++ [(i, j)])).length = N := wa_length _ _
        have hm1 : ∀ a b, near g a b = true → near (wa N (L ++ [(i, j)])) a b = true := fun a b h => by
          obtain ⟨h1, h2⟩ := near_lt HOk.out.1 h
          rw [HOk.out.2] at h1 h2
          exact (hn2 a b h1 h2).2 (.inl h)
        have hm2 : ∀ a b, near (wa N (L ++ [(i, j)])) a b = true → near g a b = true ∨ (a = i ∧ b = j) ∨ (a = j ∧ b = i) := fun a b h => by
          obtain ⟨h1, h2⟩ := near_lt hok2 h
          rw [hlw] at h1 h2
          rcases (hn2 a b h1 h2).1 h with q | ⟨_, q⟩
          · exact .inl q
          · exact .inr q
        obtain ⟨l2, hl2⟩ := cn_list (near (wa N (L ++ [(i, j)]))) N
        have HN4 := Lib.hid (lw_num R4 _ q1 hok2 N hlw l2 hl2)
        have HT4 := Lib.hid (lw_thr R4 _ q1 hok2 N hlw)
        have HCmp : Hid (∀ a, a < N → l[a]?.getD 0 ≤ l2[a]?.getD 0 ∧ l2[a]?.getD 0 ≤ l[a]?.getD 0 + 1 ∧ l[a]?.getD 0 ≤ 1000) := fun a ha => by
          have h1 := cn_more hm1 hm2 ha (HLn0.out.2 a ha) (hl2.2 a ha)
          have h2 := cn_deg (HLn0.out.2 a ha) ha
          have h3 := dg_le (near g) N (fun _ => true) a
          omega
        have htm := tr_more (N := N) hm1
        rw [HMany.out] at htm
        have hT7 := trs_bd (near (wa N (L ++ [(i, j)]))) N hN1
        have HL2 : Hid (l2.length = N) := hl2.1
        have HL1 : Hid (l.length = N) := HLn0.out.1
        clear hbd2 hok2 hmm hn2 hlw hm1 hm2 hl2 q1 hnd h6 HCs HO HLn0 HMany HSy HLn
        generalize (trs (near (wa N (L ++ [(i, j)]))) N).length = many2 at *
        generalize wa N (L ++ [(i, j)]) = k at *
        have HC := Lib.hid (HN4.out A4 c4 _ H4.out)
        have k_K4 := K4.out
        go_wp2_with fail
        clear k_K4
        refine HC.out.mono ?_
        rintro e w6 ⟨b14, rfl, q14, bq⟩
        clear HC
        have HBc := Lib.hid bq; clear bq
        have HBq : Hid (Below W.heap.size W w6) := HBc.out
        replace HB : Hid (Below w.heap.size w w6) := HB.out.trans (HBq.out.mono HB.out.size)
        replace HR : Hid (RdG w6 (w6).heap.size A R) := HR.out.on HBq.out
        replace K0 : Hid ((w6).cell? ⟨w.heap.size, 0, none⟩ = some (.slice A N c)) := (HBq.out.cell (World.block_lt_of_cell? _ _ K0.out)).trans K0.out
        replace Ka : Hid ((w6).cell? ⟨w.heap.size + 1, 0, none⟩ = some (.int .i64 xa)) := (HBq.out.cell (World.block_lt_of_cell? _ _ Ka.out)).trans Ka.out
        replace Kb : Hid ((w6).cell? ⟨w.heap.size + 1, 1, none⟩ = some (.int .i64 xb)) := (HBq.out.cell (World.block_lt_of_cell? _ _ Kb.out)).trans Kb.out
        replace Q1 : Hid (RdV w6 (w6).heap.size (some ⟨b1, 0, none⟩) (zc (ns l))) := Q1.out.on HBq.out
        replace K4 : Hid ((w6).cell? ⟨b13, 0, none⟩ = some (.slice A4 N c4)) := (HBq.out.cell (World.block_lt_of_cell? _ _ K4.out)).trans K4.out
        replace H4 : Hid (RdG w6 (w6).heap.size A4 R4) := H4.out.on HBq.out
        clear HBq
        clear HBc
        have Q14 : Hid (RdV w6 (w6).heap.size (some ⟨b14, 0, none⟩) (zc (ns l2))) := q14
        clear q14
        have HC := Lib.hid (HT4.out A4 c4 _ H4.out)
        have k_K4 := K4.out
        go_wp2_with fail
        clear k_K4
        refine HC.out.mono ?_
        rintro e w7 ⟨b16, rfl, -, bq⟩
        clear HC
        have HBc := Lib.hid bq; clear bq
        have HBq : Hid (Below w6.heap.size w6 w7) := HBc.out
        replace HB : Hid (Below w.heap.size w w7) := HB.out.trans (HBq.out.mono HB.out.size)
        replace HR : Hid (RdG w7 (w7).heap.size A R) := HR.out.on HBq.out
        replace K0 : Hid ((w7).cell? ⟨w.heap.size, 0, none⟩ = some (.slice A N c)) := (HBq.out.cell (World.block_lt_of_cell? _ _ K0.out)).trans K0.out
        replace Ka : Hid ((w7).cell? ⟨w.heap.size + 1, 0, none⟩ = some (.int .i64 xa)) := (HBq.out.cell (World.block_lt_of_cell? _ _ Ka.out)).trans Ka.out
        replace Kb : Hid ((w7).cell? ⟨w.heap.size + 1, 1, none⟩ = some (.int .i64 xb)) := (HBq.out.cell (World.block_lt_of_cell? _ _ Kb.out)).trans Kb.out
        replace Q1 : Hid (RdV w7 (w7).heap.size (some ⟨b1, 0, none⟩) (zc (ns l))) := Q1.out.on HBq.out
        replace K4 : Hid ((w7).cell? ⟨b13, 0, none⟩ = some (.slice A4 N c4)) := (HBq.out.cell (World.block_lt_of_cell? _ _ K4.out)).trans K4.out
        replace H4 : Hid (RdG w7 (w7).heap.size A4 R4) := H4.out.on HBq.out
        replace Q14 : Hid (RdV w7 (w7).heap.size (some ⟨b14, 0, none⟩) (zc (ns l2))) := Q14.out.on HBq.out
        clear HBq
        clear HBc
        have t1 : decide ((many2 : Int) < (many : Int)) = false := by simp; omega
        have t1n : decide (many2 < many) = false := by simp; omega
        have t2 : ((N : Int) != (N : Int)) = false := by simp
        have HV : Hid (∀ V, Below w7.heap.size w7 V → RdV V V.heap.size (some ⟨b1, 0, none⟩) (zc (ns l)) ∧ RdV V V.heap.size (some ⟨b14, 0, none⟩) (zc (ns l2)) ∧ Below w.heap.size w V) := fun V hV => ⟨Q1.out.on hV, Q14.out.on hV, HB.out.trans (hV.mono HB.out.size)⟩
        clear HB HR K0 Ka Kb Q1 K4 H4 Q14 HN4 HT4 htm hT6 hT7
        go_wp2
        go_loopw [19] (fun p wr => ∃ a : Nat, a ≤ N ∧ p = .int .i64 (a : Int) ∧ Below w7.heap.size w7 wr) (fun p _ => N - (intOf p).toNat)
        case atStart => exact ⟨0, Nat.zero_le _, rfl, Below.refl _ _⟩
        case round =>
         as_aux_lemma =>
          obtain ⟨a, ha, rfl, hb⟩ := hrel
          obtain ⟨f1, f2, f3⟩ := HV.out wr hb
          by_cases hlt : a < N
          · have y1 := rd_at0 f1 HL1.out hlt
            have y2 := rd_at0 f2 HL2.out hlt
            obtain ⟨c1', c2', c3'⟩ := HCmp.out a hlt
            have HBl := Lib.hid hb
            have s1 : (0 : Int) ≤ (a : Int) := by omega
            have s2 : (a : Int) < (N : Int) := by omega
            clear hb f1 f2 f3
            generalize l[a]?.getD 0 = u at *
            generalize l2[a]?.getD 0 = v at *
            have s3 : decide ((v : Int) < (u : Int)) = false := by simp; omega
            have s3n : decide (v < u) = false := by simp; omega
            have s4 : decide ((u : Int) + 1 < (v : Int)) = false := by simp; omega
            have s4n : decide (u + 1 < v) = false := by simp; omega
            have s5 : IntKind.i64.wrap ((u : Int) + 1) = (u : Int) + 1 := IntWalk.i64_in _ (by omega)
            go_wp2
            go_quiet (fail)
            go_wp2
            go_roundw
            case rel => exact ⟨a + 1, by omega, by go_num, below_drewN HBl.out _⟩
            case measure => simp [intOf]; omega
          · have t3 : decide ((a : Int) < (N : Int)) = false := by simp; omega
            have t3n : decide (a < N) = false := by simpa using hlt
            have HF := Lib.hid f3
            clear hb f1 f2 f3
            go_wp2
            go_ret
            exact ⟨rfl, HF.out⟩
    clear hQ
    have HCell : Hid (∀ V, Below w5.heap.size w5 V → V.cell? ⟨w.heap.size, 0, none⟩ = some (.slice A N c) ∧ V.cell? ⟨w.heap.size + 1, 0, none⟩ = some (.int .i64 xa) ∧ V.cell? ⟨w.heap.size + 1, 1, none⟩ = some (.int .i64 xb)) := fun V hV => ⟨(hV.cell (World.block_lt_of_cell? _ _ k0)).trans k0, (hV.cell (World.block_lt_of_cell? _ _ ka)).trans ka, (hV.cell (World.block_lt_of_cell? _ _ kb)).trans kb⟩
    have HArc : Hid (∀ V, Below w5.heap.size w5 V → RdV V V.heap.size A1 (acs L)) := fun V hV => H1.out.on hV
    have hcz := hcp.1
    have hacl : (acs L).length = n * 2 := by rw [acs_length, HLn.out.1]
    have lo : Below w5.heap.size w5 w5.drew := (Below.refl _ w5).drew
    refine Code.wp_mono OnlyN.imp (wp_region_held_drew (S := fun V => V.cell? ⟨w.heap.size, 0, none⟩ = some (.slice A N c) ∧ V.cell? ⟨w.heap.size + 1, 0, none⟩ = some (.int .i64 xa) ∧ V.cell? ⟨w.heap.size + 1, 1, none⟩ = some (.int .i64 xb)) (by kernel_rfl) ⟨k0, ka, kb⟩ (fun hHeld => ?_))
    obtain ⟨W0, hW0⟩ : ∃ W0, w5.drew = W0 := ⟨_, rfl⟩
    rw [hW0] at hHeld lo ⊢
    clear hW0 k0 ka kb
    (refine gheld_val (i := 0) rfl (by kernel_rfl) (by kernel_rfl) (by kernel_rfl) hHeld (by rfl) ?_; apply Exists.intro; refine ⟨fun wq hSw => ?_, ?_⟩; ((try dsimp only at hSw); obtain ⟨c1, c2, c3⟩ := hSw; go_simp; try rfl); try simp only [Act.put, List.setIfInBounds_toArray, List.set_cons_zero, List.set_cons_succ])
    (refine gheld_val (i := 1) rfl (by kernel_rfl) (by kernel_rfl) (by kernel_rfl) hHeld (by rfl) ?_; apply Exists.intro; refine ⟨fun wq hSw => ?_, ?_⟩; ((try dsimp only at hSw); obtain ⟨c1, c2, c3⟩ := hSw; go_simp; try rfl); try simp only [Act.put, List.setIfInBounds_toArray, List.set_cons_zero, List.set_cons_succ])
    (refine gheld_val (i := 2) rfl (by kernel_rfl) (by kernel_rfl) (by kernel_rfl) hHeld (by rfl) ?_; apply Exists.intro; refine ⟨fun wq hSw => ?_, ?_⟩; ((try dsimp only at hSw); obtain ⟨c1, c2, c3⟩ := hSw; go_simp; try rfl); try simp only [Act.put, List.setIfInBounds_toArray, List.set_cons_zero, List.set_cons_succ])
    (refine gheld_val (i := 4) rfl (by kernel_rfl) (by kernel_rfl) (by kernel_rfl) hHeld (by rfl) ?_; apply Exists.intro; refine ⟨fun wq hSw => ?_, ?_⟩; ((try dsimp only at hSw); obtain ⟨c1, c2, c3⟩ := hSw; go_simp; try rfl); try simp only [Act.put, List.setIfInBounds_toArray, List.set_cons_zero, List.set_cons_succ])
    (refine gheld_val (i := 6) rfl (by kernel_rfl) (by kernel_rfl) (by kernel_rfl) hHeld (by rfl) ?_; apply Exists.intro; refine ⟨fun wq hSw => ?_, ?_⟩; ((try dsimp only at hSw); obtain ⟨c1, c2, c3⟩ := hSw; go_simp; try rfl); try simp only [Act.put, List.setIfInBounds_toArray, List.set_cons_zero, List.set_cons_succ])
    refine wpAnyH_ready (rs := [3, 7, 13]) (by kernel_rfl) (by simp) ?_
    refine AllReadyH.cons (gof_drop rfl) (fun K hK => ?_) (AllReadyH.cons (gof_drop rfl) (fun K hK => ?_) (AllReadyH.cons (gof_drop rfl) (fun K hK => ?_) AllReadyH.nil))
    · go_simp
      obtain ⟨V1, hV⟩ : ∃ V, W0.alloc (.cells #[] 36) = V := ⟨_, rfl⟩
      have szq : V1.heap.size = W0.heap.size + 1 := by rw [← hV]; exact World.size_alloc _ _
      have sz : V1.heap.size ≤ W0.heap.size + 1 ∧ W0.heap.size + 1 ≤ V1.heap.size := by omega
      clear szq
      have hb : Below W0.heap.size W0 V1 := hV ▸ one_below _ _
      have gz := lo.size
      have lo := lo.trans (hb.mono lo.size)
      have anew : V1.heap[W0.heap.size]? = some (.cells #[] 36 (0, 0)) := hV ▸ World.alloc_heap_new _ _
      have own : V1.ownsRow w5.heap.size 36 2 (.slice (some ⟨W0.heap.size, 0, none⟩) 0 0) 0 [] := ⟨rfl, .inr ⟨W0.heap.size, 0, #[], rfl, by omega, anew, by omega, by decide, rfl, rfl⟩⟩
      clear anew
      rw [hV]
      clear hV
      refine hK.out _ _ (HCell.out _ lo) (fun hHeld => ?_)
      clear hK K
      try simp only [Act.put, List.setIfInBounds_toArray, List.set_cons_zero, List.set_cons_succ]
      refine wpAnyH_ready (rs := [5, 7, 13]) (by kernel_rfl) (by simp) ?_
      refine AllReadyH.cons (gof_drop rfl) (fun K hK => ?_) (AllReadyH.cons (gof_drop rfl) (fun K hK => ?_) (AllReadyH.cons (gof_drop rfl) (fun K hK => ?_) AllReadyH.nil))
      · refine arcs_atN (by rfl) (.tmp 59) (.tmp 60) (by rfl) w5.heap.size _ 0 [] (by rfl) own A1 n c1 (acs L) (by rfl) hcp.2 hcp.1 hacl (HArc.out _ lo) (acs_one _) (by omega) lo.size ?_
        intro v5 V2 own2 gr h4
        have lo2 := lo.trans (grown_low gr own lo.size)
        have gsz := gr.size
        have own := own2
        have lo := lo2
        clear own2 lo2 gr h4
        rw [Nat.zero_add, List.nil_append] at own
        obtain ⟨Ax5, cx5, rfl⟩ := own_sliceT own
        refine hK.out _ _ (HCell.out _ lo) (fun hHeld => ?_)
        clear hK K
        try simp only [Act.put, List.setIfInBounds_toArray, List.set_cons_zero, List.set_cons_succ]
        refine wpAnyH_ready (rs := [7, 13]) (by kernel_rfl) (by simp) ?_
        refine AllReadyH.cons (gof_drop rfl) (fun K hK => ?_) (AllReadyH.cons (gof_drop rfl) (fun K hK => ?_) AllReadyH.nil)
        · have own0 := own
          go_simp
          obtain ⟨V3, hV⟩ : ∃ V, V2.alloc (.cells #[.int .i64 xa, .int .i64 xb] 36) = V := ⟨_, rfl⟩
          have szq : V3.heap.size = V2.heap.size + 1 := by rw [← hV]; exact World.size_alloc _ _
          have sz : V3.heap.size ≤ V2.heap.size + 1 ∧ V2.heap.size + 1 ≤ V3.heap.size := by omega
          clear szq
          have hb : Below V2.heap.size V2 V3 := hV ▸ one_below _ _
          have gz := lo.size
          have lo := lo.trans (hb.mono lo.size)
          have anew : V3.heap[V2.heap.size]? = some (.cells #[.int .i64 xa, .int .i64 xb] 36 (0, 0)) := hV ▸ World.alloc_heap_new _ _
          have own : V3.ownsRow w5.heap.size 36 2 (.slice Ax5 n cx5) n (acs L) := hV ▸ own.alloc _
          have a7 := anew
          have ne7 : Value.ownBlock (.slice Ax5 n cx5) ≠ some V2.heap.size := fun e => absurd (own_blk_lt own0 e) (Nat.lt_irrefl _)
          clear anew
          rw [hV]
          clear hV
          refine hK.out _ _ (HCell.out _ lo) (fun hHeld => ?_)
          clear hK K
          try simp only [Act.put, List.setIfInBounds_toArray, List.set_cons_zero, List.set_cons_succ]
          refine wpAnyH_ready (rs := [8, 13]) (by kernel_rfl) (by simp) ?_
          refine AllReadyH.cons (gof_drop rfl) (fun K hK => ?_) (AllReadyH.cons (gof_drop rfl) (fun K hK => ?_) AllReadyH.nil)
          · refine arcs_at (by rfl) (.tmp 61) (.tmp 63) (by rfl) w5.heap.size _ n (acs L) (by rfl) own V2.heap.size 0 1 1 [.int .i64 xa, .int .i64 xb] (by rfl) rfl (fun j u hj => (cell_at a7 _).trans (by rw [Nat.zero_add]; simpa using hj)) (by simp [Value.oneCell']) (by omega) lo.size ?_
            intro v8 V4 own2 gr h4
            have lo2 := lo.trans (grown_low gr own lo.size)
            have gsz := gr.size
            have own := own2
            have lo := lo2
            clear own2 lo2 gr h4
            obtain ⟨Ax8, cx8, rfl⟩ := own_sliceT own
            refine hK.out _ _ (HCell.out _ lo) (fun hHeld => ?_)
            clear hK K
            try simp only [Act.put, List.setIfInBounds_toArray, List.set_cons_zero, List.set_cons_succ]
            refine wpAnyH_ready (rs := [9, 13]) (by kernel_rfl) (by simp) ?_
            refine AllReadyH.cons (gof_drop rfl) (fun K hK => ?_) (AllReadyH.cons (gof_drop rfl) (fun K hK => ?_) AllReadyH.nil)
            · go_simp
              have hrd : RdV V4 V4.heap.size Ax8 (rcs (rz L ++ [(xa, xb)])) := by have := own_rdvA own; rw [rcs_append]; exact this
              refine (HO.out Ax8 cx8 V4 hrd).mono ?_
              rintro e V5 ⟨A4, R4, c4, rfl, q1, rdh, q3⟩
              have gz := lo.size
              have gq := q3.size
              have lo := lo.trans (q3.mono lo.size)
              clear hrd
              refine hK.out _ _ (HCell.out _ lo) (fun hHeld => ?_)
              clear hK K
              try simp only [Act.put, List.setIfInBounds_toArray, List.set_cons_zero, List.set_cons_succ]
              (refine gheld_val (i := 10) rfl (by kernel_rfl) (by kernel_rfl) (by kernel_rfl) hHeld (by rfl) ?_; apply Exists.intro; refine ⟨fun wq hSw => ?_, ?_⟩; ((try dsimp only at hSw); obtain ⟨c1, c2, c3⟩ := hSw; go_simp; try rfl); try simp only [Act.put, List.setIfInBounds_toArray, List.set_cons_zero, List.set_cons_succ])
              (refine gheld_val (i := 11) rfl (by kernel_rfl) (by kernel_rfl) (by kernel_rfl) hHeld (by rfl) ?_; apply Exists.intro; refine ⟨fun wq hSw => ?_, ?_⟩; ((try dsimp only at hSw); obtain ⟨c1, c2, c3⟩ := hSw; go_simp; try rfl); try simp only [Act.put, List.setIfInBounds_toArray, List.set_cons_zero, List.set_cons_succ])
              (refine gheld_val (i := 12) rfl (by kernel_rfl) (by kernel_rfl) (by kernel_rfl) hHeld (by rfl) ?_; apply Exists.intro; refine ⟨fun wq hSw => ?_, ?_⟩; ((try dsimp only at hSw); obtain ⟨c1, c2, c3⟩ := hSw; go_simp; try rfl); try simp only [Act.put, List.setIfInBounds_toArray, List.set_cons_zero, List.set_cons_succ])
              refine wpAnyH_ready (rs := [13]) (by kernel_rfl) (by simp) ?_
              refine AllReadyH.cons (gof_drop rfl) (fun K hK => ?_) AllReadyH.nil
              · go_simp
                obtain ⟨V6, hV⟩ : ∃ V, V5.alloc (.cells #[.slice none 0 0] 24) = V := ⟨_, rfl⟩
                have szq : V6.heap.size = V5.heap.size + 1 := by rw [← hV]; exact World.size_alloc _ _
                have sz : V6.heap.size ≤ V5.heap.size + 1 ∧ V5.heap.size + 1 ≤ V6.heap.size := by omega
                clear szq
                have hb : Below V5.heap.size V5 V6 := hV ▸ one_below _ _
                have gz := lo.size
                have lo := lo.trans (hb.mono lo.size)
                have anew : V6.heap[V5.heap.size]? = some (.cells #[.slice none 0 0] 24 (0, 0)) := hV ▸ World.alloc_heap_new _ _
                have a13 := anew
                have hfin : ∀ y, RdG (V6.setCell ⟨V5.heap.size, 0, none⟩ y) (V6.setCell ⟨V5.heap.size, 0, none⟩ y).heap.size A4 R4 := fun y => rdh.here.keep (by simp [World.setCell]; omega) (fun k hk => (Below.heap_setCell _ _ _ _ (by show k ≠ V5.heap.size; omega)).trans (hb.block k hk))
                clear anew
                rw [hV]
                clear hV
                refine hK.out _ _ (HCell.out _ lo) (fun hHeld => ?_)
                clear hK K
                try simp only [Act.put, List.setIfInBounds_toArray, List.set_cons_zero, List.set_cons_succ]
                refine wpAnyH_ready (rs := [14]) (by kernel_rfl) (by simp) ?_
                refine AllReadyH.cons (gof_drop rfl) (fun K hK => ?_) AllReadyH.nil
                · have kf := frz_at a13 0
                  have kc : V6.cell? ⟨V5.heap.size, 0, none⟩ = some (.slice none 0 0) := (cell_at a13 0).trans rfl
                  go_simp
                  clear kf kc
                  obtain ⟨V7, hV⟩ : ∃ V, V6.setCell ⟨V5.heap.size, 0, none⟩ (.slice A4 N1 c4) = V := ⟨_, rfl⟩
                  have hfin := hfin (.slice A4 N1 c4)
                  have a13 := heap_set_same _ _ 0 (.slice A4 N1 c4) _ _ a13
                  have lo : Below w5.heap.size w5 V7 := hV ▸ lo.setCell (p := ⟨V5.heap.size, 0, none⟩) (by show w5.heap.size ≤ V5.heap.size; omega) _
                  rw [hV] at hfin a13 ⊢
                  clear hV
                  refine hK.out _ _ (HCell.out _ lo) (fun hHeld => ?_)
                  clear hK K
                  try simp only [Act.put, List.setIfInBounds_toArray, List.set_cons_zero, List.set_cons_succ]
                  (refine gheld_val (i := 15) rfl (by kernel_rfl) (by kernel_rfl) (by kernel_rfl) hHeld (by rfl) ?_; apply Exists.intro; refine ⟨fun wq hSw => ?_, ?_⟩; ((try dsimp only at hSw); obtain ⟨c1, c2, c3⟩ := hSw; go_simp; try rfl); try simp only [Act.put, List.setIfInBounds_toArray, List.set_cons_zero, List.set_cons_succ])
                  refine wpAnyH_done (by kernel_rfl) ⟨rfl, ?_⟩ _
                  exact HRest.out V7 W0.heap.size V2.heap.size V5.heap.size _ _ A4 R4 c4 lo a13 q1 hfin
            · have own0 := own
              go_simp
              obtain ⟨V8, hV⟩ : ∃ V, V4.alloc (.cells #[.slice none 0 0] 24) = V := ⟨_, rfl⟩
              have szq : V8.heap.size = V4.heap.size + 1 := by rw [← hV]; exact World.size_alloc _ _
              have sz : V8.heap.size ≤ V4.heap.size + 1 ∧ V4.heap.size + 1 ≤ V8.heap.size := by omega
              clear szq
              have hb : Below V4.heap.size V4 V8 := hV ▸ one_below _ _
              have gz := lo.size
              have lo := lo.trans (hb.mono lo.size)
              have anew : V8.heap[V4.heap.size]? = some (.cells #[.slice none 0 0] 24 (0, 0)) := hV ▸ World.alloc_heap_new _ _
              have own : V8.ownsRow w5.heap.size 36 2 (.slice Ax8 (n + 1) cx8) (n + 1) (acs L ++ [.int .i64 xa, .int .i64 xb]) := hV ▸ own.alloc _
              have a13 := anew
              have ne13 : Value.ownBlock (.slice Ax8 (n + 1) cx8) ≠ some V4.heap.size := fun e => absurd (own_blk_lt own0 e) (Nat.lt_irrefl _)
              clear anew
              rw [hV]
              clear hV
              refine hK.out _ _ (HCell.out _ lo) (fun hHeld => ?_)
              clear hK K
              try simp only [Act.put, List.setIfInBounds_toArray, List.set_cons_zero, List.set_cons_succ]
              refine wpAnyH_ready (rs := [9]) (by kernel_rfl) (by simp) ?_
              refine AllReadyH.cons (gof_drop rfl) (fun K hK => ?_) AllReadyH.nil
              · go_simp
                have hrd : RdV V8 V8.heap.size Ax8 (rcs (rz L ++ [(xa, xb)])) := by have := own_rdvA own; rw [rcs_append]; exact this
                refine (HO.out Ax8 cx8 V8 hrd).mono ?_
                rintro e V9 ⟨A4, R4, c4, rfl, q1, rdh, q3⟩
                have gz := lo.size
                have gq := q3.size
                have lo := lo.trans (q3.mono lo.size)
                have alt := (Array.getElem?_eq_some_iff.1 a13).1
                have a13 := (q3.block _ alt).trans a13
                have hfin : ∀ y, RdG (V9.setCell ⟨V4.heap.size, 0, none⟩ y) (V9.setCell ⟨V4.heap.size, 0, none⟩ y).heap.size A4 R4 := fun y => rdh _ (fun k h1 h2 => Below.heap_setCell _ _ _ _ (by show k ≠ V4.heap.size; omega)) (by simp [World.setCell])
                clear hrd
                refine hK.out _ _ (HCell.out _ lo) (fun hHeld => ?_)
                clear hK K
                try simp only [Act.put, List.setIfInBounds_toArray, List.set_cons_zero, List.set_cons_succ]
                (refine gheld_val (i := 10) rfl (by kernel_rfl) (by kernel_rfl) (by kernel_rfl) hHeld (by rfl) ?_; apply Exists.intro; refine ⟨fun wq hSw => ?_, ?_⟩; ((try dsimp only at hSw); obtain ⟨c1, c2, c3⟩ := hSw; go_simp; try rfl); try simp only [Act.put, List.setIfInBounds_toArray, List.set_cons_zero, List.set_cons_succ])
                (refine gheld_val (i := 11) rfl (by kernel_rfl) (by kernel_rfl) (by kernel_rfl) hHeld (by rfl) ?_; apply Exists.intro; refine ⟨fun wq hSw => ?_, ?_⟩; ((try dsimp only at hSw); obtain ⟨c1, c2, c3⟩ := hSw; go_simp; try rfl); try simp only [Act.put, List.setIfInBounds_toArray, List.set_cons_zero, List.set_cons_succ])
                (refine gheld_val (i := 12) rfl (by kernel_rfl) (by kernel_rfl) (by kernel_rfl) hHeld (by rfl) ?_; apply Exists.intro; refine ⟨fun wq hSw => ?_, ?_⟩; ((try dsimp only at hSw); obtain ⟨c1, c2, c3⟩ := hSw; go_simp; try rfl); try simp only [Act.put, List.setIfInBounds_toArray, List.set_cons_zero, List.set_cons_succ])
                refine wpAnyH_ready (rs := [14]) (by kernel_rfl) (by simp) ?_
                refine AllReadyH.cons (gof_drop rfl) (fun K hK => ?_) AllReadyH.nil
                · have kf := frz_at a13 0
                  have kc : V9.cell? ⟨V4.heap.size, 0, none⟩ = some (.slice none 0 0) := (cell_at a13 0).trans rfl
                  go_simp
                  clear kf kc
                  obtain ⟨V10, hV⟩ : ∃ V, V9.setCell ⟨V4.heap.size, 0, none⟩ (.slice A4 N1 c4) = V := ⟨_, rfl⟩
                  have hfin := hfin (.slice A4 N1 c4)
                  have a13 := heap_set_same _ _ 0 (.slice A4 N1 c4) _ _ a13
                  have lo : Below w5.heap.size w5 V10 := hV ▸ lo.setCell (p := ⟨V4.heap.size, 0, none⟩) (by show w5.heap.size ≤ V4.heap.size; omega) _
                  rw [hV] at hfin a13 ⊢
                  clear hV
                  refine hK.out _ _ (HCell.out _ lo) (fun hHeld => ?_)
                  clear hK K
                  try simp only [Act.put, List.setIfInBounds_toArray, List.set_cons_zero, List.set_cons_succ]
                  (refine gheld_val (i := 15) rfl (by kernel_rfl) (by kernel_rfl) (by kernel_rfl) hHeld (by rfl) ?_; apply Exists.intro; refine ⟨fun wq hSw => ?_, ?_⟩; ((try dsimp only at hSw); obtain ⟨c1, c2, c3⟩ := hSw; go_simp; try rfl); try simp only [Act.put, List.setIfInBounds_toArray, List.set_cons_zero, List.set_cons_succ])
                  refine wpAnyH_done (by kernel_rfl) ⟨rfl, ?_⟩ _
                  exact HRest.out V10 W0.heap.size V2.heap.size V4.heap.size _ _ A4 R4 c4 lo a13 q1 hfin
          · have own0 := own
            go_simp
            obtain ⟨V11, hV⟩ : ∃ V, V3.alloc (.cells #[.slice none 0 0] 24) = V := ⟨_, rfl⟩
            have szq : V11.heap.size = V3.heap.size + 1 := by rw [← hV]; exact World.size_alloc _ _
            have sz : V11.heap.size ≤ V3.heap.size + 1 ∧ V3.heap.size + 1 ≤ V11.heap.size := by omega
            clear szq
            have hb : Below V3.heap.size V3 V11 := hV ▸ one_below _ _
            have gz := lo.size
            have lo := lo.trans (hb.mono lo.size)
            have anew : V11.heap[V3.heap.size]? = some (.cells #[.slice none 0 0] 24 (0, 0)) := hV ▸ World.alloc_heap_new _ _
            have a7 := (hb.block _ (by omega)).trans a7
            have own : V11.ownsRow w5.heap.size 36 2 (.slice Ax5 n cx5) n (acs L) := hV ▸ own.alloc _
            have a13 := anew
            have ne13 : Value.ownBlock (.slice Ax5 n cx5) ≠ some V3.heap.size := fun e => absurd (own_blk_lt own0 e) (Nat.lt_irrefl _)
            clear anew
            rw [hV]
            clear hV
            refine hK.out _ _ (HCell.out _ lo) (fun hHeld => ?_)
            clear hK K
            try simp only [Act.put, List.setIfInBounds_toArray, List.set_cons_zero, List.set_cons_succ]
            refine wpAnyH_ready (rs := [8]) (by kernel_rfl) (by simp) ?_
            refine AllReadyH.cons (gof_drop rfl) (fun K hK => ?_) AllReadyH.nil
            · refine arcs_at (by rfl) (.tmp 61) (.tmp 63) (by rfl) w5.heap.size _ n (acs L) (by rfl) own V2.heap.size 0 1 1 [.int .i64 xa, .int .i64 xb] (by rfl) rfl (fun j u hj => (cell_at a7 _).trans (by rw [Nat.zero_add]; simpa using hj)) (by simp [Value.oneCell']) (by omega) lo.size ?_
              intro v8 V12 own2 gr h4
              have lo2 := lo.trans (grown_low gr own lo.size)
              have gsz := gr.size
              have a13 := (gr.block _ (Array.getElem?_eq_some_iff.1 a13).1 (fun e => ne13 e.symm)).trans a13
              have ne13 : v8.ownBlock ≠ some V3.heap.size := fun e => by rcases h4 with q | q; exact ne13 (q.symm.trans e); have : V11.heap.size = V3.heap.size := Option.some.inj (q.symm.trans e); omega
              have own := own2
              have lo := lo2
              clear own2 lo2 gr h4
              obtain ⟨Ax8, cx8, rfl⟩ := own_sliceT own
              refine hK.out _ _ (HCell.out _ lo) (fun hHeld => ?_)
              clear hK K
              try simp only [Act.put, List.setIfInBounds_toArray, List.set_cons_zero, List.set_cons_succ]
              refine wpAnyH_ready (rs := [9]) (by kernel_rfl) (by simp) ?_
              refine AllReadyH.cons (gof_drop rfl) (fun K hK => ?_) AllReadyH.nil
              · go_simp
                have hrd : RdV V12 V12.heap.size Ax8 (rcs (rz L ++ [(xa, xb)])) := by have := own_rdvA own; rw [rcs_append]; exact this
                refine (HO.out Ax8 cx8 V12 hrd).mono ?_
                rintro e V13 ⟨A4, R4, c4, rfl, q1, rdh, q3⟩
                have gz := lo.size
                have gq := q3.size
                have lo := lo.trans (q3.mono lo.size)
                have alt := (Array.getElem?_eq_some_iff.1 a13).1
                have a13 := (q3.block _ alt).trans a13
                have hfin : ∀ y, RdG (V13.setCell ⟨V3.heap.size, 0, none⟩ y) (V13.setCell ⟨V3.heap.size, 0, none⟩ y).heap.size A4 R4 := fun y => rdh _ (fun k h1 h2 => Below.heap_setCell _ _ _ _ (by show k ≠ V3.heap.size; omega)) (by simp [World.setCell])
                clear hrd
                refine hK.out _ _ (HCell.out _ lo) (fun hHeld => ?_)
                clear hK K
                try simp only [Act.put, List.setIfInBounds_toArray, List.set_cons_zero, List.set_cons_succ]
                (refine gheld_val (i := 10) rfl (by kernel_rfl) (by kernel_rfl) (by kernel_rfl) hHeld (by rfl) ?_; apply Exists.intro; refine ⟨fun wq hSw => ?_, ?_⟩; ((try dsimp only at hSw); obtain ⟨c1, c2, c3⟩ := hSw; go_simp; try rfl); try simp only [Act.put, List.setIfInBounds_toArray, List.set_cons_zero, List.set_cons_succ])
                (refine gheld_val (i := 11) rfl (by kernel_rfl) (by kernel_rfl) (by kernel_rfl) hHeld (by rfl) ?_; apply Exists.intro; refine ⟨fun wq hSw => ?_, ?_⟩; ((try dsimp only at hSw); obtain ⟨c1, c2, c3⟩ := hSw; go_simp; try rfl); try simp only [Act.put, List.setIfInBounds_toArray, List.set_cons_zero, List.set_cons_succ])
                (refine gheld_val (i := 12) rfl (by kernel_rfl) (by kernel_rfl) (by kernel_rfl) hHeld (by rfl) ?_; apply Exists.intro; refine ⟨fun wq hSw => ?_, ?_⟩; ((try dsimp only at hSw); obtain ⟨c1, c2, c3⟩ := hSw; go_simp; try rfl); try simp only [Act.put, List.setIfInBounds_toArray, List.set_cons_zero, List.set_cons_succ])
                refine wpAnyH_ready (rs := [14]) (by kernel_rfl) (by simp) ?_
                refine AllReadyH.cons (gof_drop rfl) (fun K hK => ?_) AllReadyH.nil
                · have kf := frz_at a13 0
                  have kc : V13.cell? ⟨V3.heap.size, 0, none⟩ = some (.slice none 0 0) := (cell_at a13 0).trans rfl
                  go_simp
                  clear kf kc
                  obtain ⟨V14, hV⟩ : ∃ V, V13.setCell ⟨V3.heap.size, 0, none⟩ (.slice A4 N1 c4) = V := ⟨_, rfl⟩
                  have hfin := hfin (.slice A4 N1 c4)
                  have a13 := heap_set_same _ _ 0 (.slice A4 N1 c4) _ _ a13
                  have lo : Below w5.heap.size w5 V14 := hV ▸ lo.setCell (p := ⟨V3.heap.size, 0, none⟩) (by show w5.heap.size ≤ V3.heap.size; omega) _
                  rw [hV] at hfin a13 ⊢
                  clear hV
                  refine hK.out _ _ (HCell.out _ lo) (fun hHeld => ?_)
                  clear hK K
                  try simp only [Act.put, List.setIfInBounds_toArray, List.set_cons_zero, List.set_cons_succ]
                  (refine gheld_val (i := 15) rfl (by kernel_rfl) (by kernel_rfl) (by kernel_rfl) hHeld (by rfl) ?_; apply Exists.intro; refine ⟨fun wq hSw => ?_, ?_⟩; ((try dsimp only at hSw); obtain ⟨c1, c2, c3⟩ := hSw; go_simp; try rfl); try simp only [Act.put, List.setIfInBounds_toArray, List.set_cons_zero, List.set_cons_succ])
                  refine wpAnyH_done (by kernel_rfl) ⟨rfl, ?_⟩ _
                  exact HRest.out V14 W0.heap.size V2.heap.size V3.heap.size _ _ A4 R4 c4 lo a13 q1 hfin
        · have own0 := own
          go_simp
          obtain ⟨V15, hV⟩ : ∃ V, V2.alloc (.cells #[.slice none 0 0] 24) = V := ⟨_, rfl⟩
          have szq : V15.heap.size = V2.heap.size + 1 := by rw [← hV]; exact World.size_alloc _ _
          have sz : V15.heap.size ≤ V2.heap.size + 1 ∧ V2.heap.size + 1 ≤ V15.heap.size := by omega
          clear szq
          have hb : Below V2.heap.size V2 V15 := hV ▸ one_below _ _
          have gz := lo.size
          have lo := lo.trans (hb.mono lo.size)
          have anew : V15.heap[V2.heap.size]? = some (.cells #[.slice none 0 0] 24 (0, 0)) := hV ▸ World.alloc_heap_new _ _
          have own : V15.ownsRow w5.heap.size 36 2 (.slice Ax5 n cx5) n (acs L) := hV ▸ own.alloc _
          have a13 := anew
          have ne13 : Value.ownBlock (.slice Ax5 n cx5) ≠ some V2.heap.size := fun e => absurd (own_blk_lt own0 e) (Nat.lt_irrefl _)
          clear anew
          rw [hV]
          clear hV
          refine hK.out _ _ (HCell.out _ lo) (fun hHeld => ?_)
          clear hK K
          try simp only [Act.put, List.setIfInBounds_toArray, List.set_cons_zero, List.set_cons_succ]
          refine wpAnyH_ready (rs := [7]) (by kernel_rfl) (by simp) ?_
          refine AllReadyH.cons (gof_drop rfl) (fun K hK => ?_) AllReadyH.nil
          · have own0 := own
            go_simp
            obtain ⟨V16, hV⟩ : ∃ V, V15.alloc (.cells #[.int .i64 xa, .int .i64 xb] 36) = V := ⟨_, rfl⟩
            have szq : V16.heap.size = V15.heap.size + 1 := by rw [← hV]; exact World.size_alloc _ _
            have sz : V16.heap.size ≤ V15.heap.size + 1 ∧ V15.heap.size + 1 ≤ V16.heap.size := by omega
            clear szq
            have hb : Below V15.heap.size V15 V16 := hV ▸ one_below _ _
            have gz := lo.size
            have lo := lo.trans (hb.mono lo.size)
            have anew : V16.heap[V15.heap.size]? = some (.cells #[.int .i64 xa, .int .i64 xb] 36 (0, 0)) := hV ▸ World.alloc_heap_new _ _
            have a13 := (hb.block _ (by omega)).trans a13
            have own : V16.ownsRow w5.heap.size 36 2 (.slice Ax5 n cx5) n (acs L) := hV ▸ own.alloc _
            have a7 := anew
            have ne7 : Value.ownBlock (.slice Ax5 n cx5) ≠ some V15.heap.size := fun e => absurd (own_blk_lt own0 e) (Nat.lt_irrefl _)
            clear anew
            rw [hV]
            clear hV
            refine hK.out _ _ (HCell.out _ lo) (fun hHeld => ?_)
            clear hK K
            try simp only [Act.put, List.setIfInBounds_toArray, List.set_cons_zero, List.set_cons_succ]
            refine wpAnyH_ready (rs := [8]) (by kernel_rfl) (by simp) ?_
            refine AllReadyH.cons (gof_drop rfl) (fun K hK => ?_) AllReadyH.nil
            · refine arcs_at (by rfl) (.tmp 61) (.tmp 63) (by rfl) w5.heap.size _ n (acs L) (by rfl) own V15.heap.size 0 1 1 [.int .i64 xa, .int .i64 xb] (by rfl) rfl (fun j u hj => (cell_at a7 _).trans (by rw [Nat.zero_add]; simpa using hj)) (by simp [Value.oneCell']) (by omega) lo.size ?_
              intro v8 V17 own2 gr h4
              have lo2 := lo.trans (grown_low gr own lo.size)
              have gsz := gr.size
              have a13 := (gr.block _ (Array.getElem?_eq_some_iff.1 a13).1 (fun e => ne13 e.symm)).trans a13
              have ne13 : v8.ownBlock ≠ some V2.heap.size := fun e => by rcases h4 with q | q; exact ne13 (q.symm.trans e); have : V16.heap.size = V2.heap.size := Option.some.inj (q.symm.trans e); omega
              have own := own2
              have lo := lo2
              clear own2 lo2 gr h4
              obtain ⟨Ax8, cx8, rfl⟩ := own_sliceT own
              refine hK.out _ _ (HCell.out _ lo) (fun hHeld => ?_)
              clear hK K
              try simp only [Act.put, List.setIfInBounds_toArray, List.set_cons_zero, List.set_cons_succ]
              refine wpAnyH_ready (rs := [9]) (by kernel_rfl) (by simp) ?_
              refine AllReadyH.cons (gof_drop rfl) (fun K hK => ?_) AllReadyH.nil
              · go_simp
                have hrd : RdV V17 V17.heap.size Ax8 (rcs (rz L ++ [(xa, xb)])) := by have := own_rdvA own; rw [rcs_append]; exact this
                refine (HO.out Ax8 cx8 V17 hrd).mono ?_
                rintro e V18 ⟨A4, R4, c4, rfl, q1, rdh, q3⟩
                have gz := lo.size
                have gq := q3.size
                have lo := lo.trans (q3.mono lo.size)
                have alt := (Array.getElem?_eq_some_iff.1 a13).1
                have a13 := (q3.block _ alt).trans a13
                have hfin : ∀ y, RdG (V18.setCell ⟨V2.heap.size, 0, none⟩ y) (V18.setCell ⟨V2.heap.size, 0, none⟩ y).heap.size A4 R4 := fun y => rdh _ (fun k h1 h2 => Below.heap_setCell _ _ _ _ (by show k ≠ V2.heap.size; omega)) (by simp [World.setCell])
                clear hrd
                refine hK.out _ _ (HCell.out _ lo) (fun hHeld => ?_)
                clear hK K
                try simp only [Act.put, List.setIfInBounds_toArray, List.set_cons_zero, List.set_cons_succ]
                (refine gheld_val (i := 10) rfl (by kernel_rfl) (by kernel_rfl) (by kernel_rfl) hHeld (by rfl) ?_; apply Exists.intro; refine ⟨fun wq hSw => ?_, ?_⟩; ((try dsimp only at hSw); obtain ⟨c1, c2, c3⟩ := hSw; go_simp; try rfl); try simp only [Act.put, List.setIfInBounds_toArray, List.set_cons_zero, List.set_cons_succ])
                (refine gheld_val (i := 11) rfl (by kernel_rfl) (by kernel_rfl) (by kernel_rfl) hHeld (by rfl) ?_; apply Exists.intro; refine ⟨fun wq hSw => ?_, ?_⟩; ((try dsimp only at hSw); obtain ⟨c1, c2, c3⟩ := hSw; go_simp; try rfl); try simp only [Act.put, List.setIfInBounds_toArray, List.set_cons_zero, List.set_cons_succ])
                (refine gheld_val (i := 12) rfl (by kernel_rfl) (by kernel_rfl) (by kernel_rfl) hHeld (by rfl) ?_; apply Exists.intro; refine ⟨fun wq hSw => ?_, ?_⟩; ((try dsimp only at hSw); obtain ⟨c1, c2, c3⟩ := hSw; go_simp; try rfl); try simp only [Act.put, List.setIfInBounds_toArray, List.set_cons_zero, List.set_cons_succ])
                refine wpAnyH_ready (rs := [14]) (by kernel_rfl) (by simp) ?_
                refine AllReadyH.cons (gof_drop rfl) (fun K hK => ?_) AllReadyH.nil
                · have kf := frz_at a13 0
                  have kc : V18.cell? ⟨V2.heap.size, 0, none⟩ = some (.slice none 0 0) := (cell_at a13 0).trans rfl
                  go_simp
                  clear kf kc
                  obtain ⟨V19, hV⟩ : ∃ V, V18.setCell ⟨V2.heap.size, 0, none⟩ (.slice A4 N1 c4) = V := ⟨_, rfl⟩
                  have hfin := hfin (.slice A4 N1 c4)
                  have a13 := heap_set_same _ _ 0 (.slice A4 N1 c4) _ _ a13
                  have lo : Below w5.heap.size w5 V19 := hV ▸ lo.setCell (p := ⟨V2.heap.size, 0, none⟩) (by show w5.heap.size ≤ V2.heap.size; omega) _
                  rw [hV] at hfin a13 ⊢
                  clear hV
                  refine hK.out _ _ (HCell.out _ lo) (fun hHeld => ?_)
                  clear hK K
                  try simp only [Act.put, List.setIfInBounds_toArray, List.set_cons_zero, List.set_cons_succ]
                  (refine gheld_val (i := 15) rfl (by kernel_rfl) (by kernel_rfl) (by kernel_rfl) hHeld (by rfl) ?_; apply Exists.intro; refine ⟨fun wq hSw => ?_, ?_⟩; ((try dsimp only at hSw); obtain ⟨c1, c2, c3⟩ := hSw; go_simp; try rfl); try simp only [Act.put, List.setIfInBounds_toArray, List.set_cons_zero, List.set_cons_succ])
                  refine wpAnyH_done (by kernel_rfl) ⟨rfl, ?_⟩ _
                  exact HRest.out V19 W0.heap.size V15.heap.size V2.heap.size _ _ A4 R4 c4 lo a13 q1 hfin
      · have own0 := own
        go_simp
        obtain ⟨V20, hV⟩ : ∃ V, V1.alloc (.cells #[.int .i64 xa, .int .i64 xb] 36) = V := ⟨_, rfl⟩
        have szq : V20.heap.size = V1.heap.size + 1 := by rw [← hV]; exact World.size_alloc _ _
        have sz : V20.heap.size ≤ V1.heap.size + 1 ∧ V1.heap.size + 1 ≤ V20.heap.size := by omega
        clear szq
        have hb : Below V1.heap.size V1 V20 := hV ▸ one_below _ _
        have gz := lo.size
        have lo := lo.trans (hb.mono lo.size)
        have anew : V20.heap[V1.heap.size]? = some (.cells #[.int .i64 xa, .int .i64 xb] 36 (0, 0)) := hV ▸ World.alloc_heap_new _ _
        have own : V20.ownsRow w5.heap.size 36 2 (.slice (some ⟨W0.heap.size, 0, none⟩) 0 0) 0 [] := hV ▸ own.alloc _
        have a7 := anew
        have ne7 : Value.ownBlock (.slice (some ⟨W0.heap.size, 0, none⟩) 0 0) ≠ some V1.heap.size := fun e => absurd (own_blk_lt own0 e) (Nat.lt_irrefl _)
        clear anew
        rw [hV]
        clear hV
        refine hK.out _ _ (HCell.out _ lo) (fun hHeld => ?_)
        clear hK K
        try simp only [Act.put, List.setIfInBounds_toArray, List.set_cons_zero, List.set_cons_succ]
        refine wpAnyH_ready (rs := [5, 13]) (by kernel_rfl) (by simp) ?_
        refine AllReadyH.cons (gof_drop rfl) (fun K hK => ?_) (AllReadyH.cons (gof_drop rfl) (fun K hK => ?_) AllReadyH.nil)
        · refine arcs_atN (by rfl) (.tmp 59) (.tmp 60) (by rfl) w5.heap.size _ 0 [] (by rfl) own A1 n c1 (acs L) (by rfl) hcp.2 hcp.1 hacl (HArc.out _ lo) (acs_one _) (by omega) lo.size ?_
          intro v5 V21 own2 gr h4
          have lo2 := lo.trans (grown_low gr own lo.size)
          have gsz := gr.size
          have a7 := (gr.block _ (Array.getElem?_eq_some_iff.1 a7).1 (fun e => ne7 e.symm)).trans a7
          have ne7 : v5.ownBlock ≠ some V1.heap.size := fun e => by rcases h4 with q | q; exact ne7 (q.symm.trans e); have : V20.heap.size = V1.heap.size := Option.some.inj (q.symm.trans e); omega
          have own := own2
          have lo := lo2
          clear own2 lo2 gr h4
          rw [Nat.zero_add, List.nil_append] at own
          obtain ⟨Ax5, cx5, rfl⟩ := own_sliceT own
          refine hK.out _ _ (HCell.out _ lo) (fun hHeld => ?_)
          clear hK K
          try simp only [Act.put, List.setIfInBounds_toArray, List.set_cons_zero, List.set_cons_succ]
          refine wpAnyH_ready (rs := [8, 13]) (by kernel_rfl) (by simp) ?_
          refine AllReadyH.cons (gof_drop rfl) (fun K hK => ?_) (AllReadyH.cons (gof_drop rfl) (fun K hK => ?_) AllReadyH.nil)
          · refine arcs_at (by rfl) (.tmp 61) (.tmp 63) (by rfl) w5.heap.size _ n (acs L) (by rfl) own V1.heap.size 0 1 1 [.int .i64 xa, .int .i64 xb] (by rfl) rfl (fun j u hj => (cell_at a7 _).trans (by rw [Nat.zero_add]; simpa using hj)) (by simp [Value.oneCell']) (by omega) lo.size ?_
            intro v8 V22 own2 gr h4
            have lo2 := lo.trans (grown_low gr own lo.size)
            have gsz := gr.size
            have own := own2
            have lo := lo2
            clear own2 lo2 gr h4
            obtain ⟨Ax8, cx8, rfl⟩ := own_sliceT own
            refine hK.out _ _ (HCell.out _ lo) (fun hHeld => ?_)
            clear hK K
            try simp only [Act.put, List.setIfInBounds_toArray, List.set_cons_zero, List.set_cons_succ]
            refine wpAnyH_ready (rs := [9, 13]) (by kernel_rfl) (by simp) ?_
            refine AllReadyH.cons (gof_drop rfl) (fun K hK => ?_) (AllReadyH.cons (gof_drop rfl) (fun K hK => ?_) AllReadyH.nil)
            · go_simp
              have hrd : RdV V22 V22.heap.size Ax8 (rcs (rz L ++ [(xa, xb)])) := by have := own_rdvA own; rw [rcs_append]; exact this
              refine (HO.out Ax8 cx8 V22 hrd).mono ?_
              rintro e V23 ⟨A4, R4, c4, rfl, q1, rdh, q3⟩
              have gz := lo.size
              have gq := q3.size
              have lo := lo.trans (q3.mono lo.size)
              clear hrd
              refine hK.out _ _ (HCell.out _ lo) (fun hHeld => ?_)
              clear hK K
              try simp only [Act.put, List.setIfInBounds_toArray, List.set_cons_zero, List.set_cons_succ]
              (refine gheld_val (i := 10) rfl (by kernel_rfl) (by kernel_rfl) (by kernel_rfl) hHeld (by rfl) ?_; apply Exists.intro; refine ⟨fun wq hSw => ?_, ?_⟩; ((try dsimp only at hSw); obtain ⟨c1, c2, c3⟩ := hSw; go_simp; try rfl); try simp only [Act.put, List.setIfInBounds_toArray, List.set_cons_zero, List.set_cons_succ])
              (refine gheld_val (i := 11) rfl (by kernel_rfl) (by kernel_rfl) (by kernel_rfl) hHeld (by rfl) ?_; apply Exists.intro; refine ⟨fun wq hSw => ?_, ?_⟩; ((try dsimp only at hSw); obtain ⟨c1, c2, c3⟩ := hSw; go_simp; try rfl); try simp only [Act.put, List.setIfInBounds_toArray, List.set_cons_zero, List.set_cons_succ])
              (refine gheld_val (i := 12) rfl (by kernel_rfl) (by kernel_rfl) (by kernel_rfl) hHeld (by rfl) ?_; apply Exists.intro; refine ⟨fun wq hSw => ?_, ?_⟩; ((try dsimp only at hSw); obtain ⟨c1, c2, c3⟩ := hSw; go_simp; try rfl); try simp only [Act.put, List.setIfInBounds_toArray, List.set_cons_zero, List.set_cons_succ])
              refine wpAnyH_ready (rs := [13]) (by kernel_rfl) (by simp) ?_
              refine AllReadyH.cons (gof_drop rfl) (fun K hK => ?_) AllReadyH.nil
              · go_simp
                obtain ⟨V24, hV⟩ : ∃ V, V23.alloc (.cells #[.slice none 0 0] 24) = V := ⟨_, rfl⟩
                have szq : V24.heap.size = V23.heap.size + 1 := by rw [← hV]; exact World.size_alloc _ _
                have sz : V24.heap.size ≤ V23.heap.size + 1 ∧ V23.heap.size + 1 ≤ V24.heap.size := by omega
                clear szq
                have hb : Below V23.heap.size V23 V24 := hV ▸ one_below _ _
                have gz := lo.size
                have lo := lo.trans (hb.mono lo.size)
                have anew : V24.heap[V23.heap.size]? = some (.cells #[.slice none 0 0] 24 (0, 0)) := hV ▸ World.alloc_heap_new _ _
                have a13 := anew
                have hfin : ∀ y, RdG (V24.setCell ⟨V23.heap.size, 0, none⟩ y) (V24.setCell ⟨V23.heap.size, 0, none⟩ y).heap.size A4 R4 := fun y => rdh.here.keep (by simp [World.setCell]; omega) (fun k hk => (Below.heap_setCell _ _ _ _ (by show k ≠ V23.heap.size; omega)).trans (hb.block k hk))
                clear anew
                rw [hV]
                clear hV
                refine hK.out _ _ (HCell.out _ lo) (fun hHeld => ?_)
                clear hK K
                try simp only [Act.put, List.setIfInBounds_toArray, List.set_cons_zero, List.set_cons_succ]
                refine wpAnyH_ready (rs := [14]) (by kernel_rfl) (by simp) ?_
                refine AllReadyH.cons (gof_drop rfl) (fun K hK => ?_) AllReadyH.nil
                · have kf := frz_at a13 0
                  have kc : V24.cell? ⟨V23.heap.size, 0, none⟩ = some (.slice none 0 0) := (cell_at a13 0).trans rfl
                  go_simp
                  clear kf kc
                  obtain ⟨V25, hV⟩ : ∃ V, V24.setCell ⟨V23.heap.size, 0, none⟩ (.slice A4 N1 c4) = V := ⟨_, rfl⟩
                  have hfin := hfin (.slice A4 N1 c4)
                  have a13 := heap_set_same _ _ 0 (.slice A4 N1 c4) _ _ a13
                  have lo : Below w5.heap.size w5 V25 := hV ▸ lo.setCell (p := ⟨V23.heap.size, 0, none⟩) (by show w5.heap.size ≤ V23.heap.size; omega) _
                  rw [hV] at hfin a13 ⊢
                  clear hV
                  refine hK.out _ _ (HCell.out _ lo) (fun hHeld => ?_)
                  clear hK K
                  try simp only [Act.put, List.setIfInBounds_toArray, List.set_cons_zero, List.set_cons_succ]
                  (refine gheld_val (i := 15) rfl (by kernel_rfl) (by kernel_rfl) (by kernel_rfl) hHeld (by rfl) ?_; apply Exists.intro; refine ⟨fun wq hSw => ?_, ?_⟩; ((try dsimp only at hSw); obtain ⟨c1, c2, c3⟩ := hSw; go_simp; try rfl); try simp only [Act.put, List.setIfInBounds_toArray, List.set_cons_zero, List.set_cons_succ])
                  refine wpAnyH_done (by kernel_rfl) ⟨rfl, ?_⟩ _
                  exact HRest.out V25 W0.heap.size V1.heap.size V23.heap.size _ _ A4 R4 c4 lo a13 q1 hfin
            · have own0 := own
              go_simp
              obtain ⟨V26, hV⟩ : ∃ V, V22.alloc (.cells #[.slice none 0 0] 24) = V := ⟨_, rfl⟩
              have szq : V26.heap.size = V22.heap.size + 1 := by rw [← hV]; exact World.size_alloc _ _
              have sz : V26.heap.size ≤ V22.heap.size + 1 ∧ V22.heap.size + 1 ≤ V26.heap.size := by omega
              clear szq
              have hb : Below V22.heap.size V22 V26 := hV ▸ one_below _ _
              have gz := lo.size
              have lo := lo.trans (hb.mono lo.size)
              have anew : V26.heap[V22.heap.size]? = some (.cells #[.slice none 0 0] 24 (0, 0)) := hV ▸ World.alloc_heap_new _ _
              have own : V26.ownsRow w5.heap.size 36 2 (.slice Ax8 (n + 1) cx8) (n + 1) (acs L ++ [.int .i64 xa, .int .i64 xb]) := hV ▸ own.alloc _
              have a13 := anew
              have ne13 : Value.ownBlock (.slice Ax8 (n + 1) cx8) ≠ some V22.heap.size := fun e => absurd (own_blk_lt own0 e) (Nat.lt_irrefl _)
              clear anew
              rw [hV]
              clear hV
              refine hK.out _ _ (HCell.out _ lo) (fun hHeld => ?_)
              clear hK K
              try simp only [Act.put, List.setIfInBounds_toArray, List.set_cons_zero, List.set_cons_succ]
              refine wpAnyH_ready (rs := [9]) (by kernel_rfl) (by simp) ?_
              refine AllReadyH.cons (gof_drop rfl) (fun K hK => ?_) AllReadyH.nil
              · go_simp
                have hrd : RdV V26 V26.heap.size Ax8 (rcs (rz L ++ [(xa, xb)])) := by have := own_rdvA own; rw [rcs_append]; exact this
                refine (HO.out Ax8 cx8 V26 hrd).mono ?_
                rintro e V27 ⟨A4, R4, c4, rfl, q1, rdh, q3⟩
                have gz := lo.size
                have gq := q3.size
                have lo := lo.trans (q3.mono lo.size)
                have alt := (Array.getElem?_eq_some_iff.1 a13).1
                have a13 := (q3.block _ alt).trans a13
                have hfin : ∀ y, RdG (V27.setCell ⟨V22.heap.size, 0, none⟩ y) (V27.setCell ⟨V22.heap.size, 0, none⟩ y).heap.size A4 R4 := fun y => rdh _ (fun k h1 h2 => Below.heap_setCell _ _ _ _ (by show k ≠ V22.heap.size; omega)) (by simp [World.setCell])
                clear hrd
                refine hK.out _ _ (HCell.out _ lo) (fun hHeld => ?_)
                clear hK K
                try simp only [Act.put, List.setIfInBounds_toArray, List.set_cons_zero, List.set_cons_succ]
                (refine gheld_val (i := 10) rfl (by kernel_rfl) (by kernel_rfl) (by kernel_rfl) hHeld (by rfl) ?_; apply Exists.intro; refine ⟨fun wq hSw => ?_, ?_⟩; ((try dsimp only at hSw); obtain ⟨c1, c2, c3⟩ := hSw; go_simp; try rfl); try simp only [Act.put, List.setIfInBounds_toArray, List.set_cons_zero, List.set_cons_succ])
                (refine gheld_val (i := 11) rfl (by kernel_rfl) (by kernel_rfl) (by kernel_rfl) hHeld (by rfl) ?_; apply Exists.intro; refine ⟨fun wq hSw => ?_, ?_⟩; ((try dsimp only at hSw); obtain ⟨c1, c2, c3⟩ := hSw; go_simp; try rfl); try simp only [Act.put, List.setIfInBounds_toArray, List.set_cons_zero, List.set_cons_succ])
                (refine gheld_val (i := 12) rfl (by kernel_rfl) (by kernel_rfl) (by kernel_rfl) hHeld (by rfl) ?_; apply Exists.intro; refine ⟨fun wq hSw => ?_, ?_⟩; ((try dsimp only at hSw); obtain ⟨c1, c2, c3⟩ := hSw; go_simp; try rfl); try simp only [Act.put, List.setIfInBounds_toArray, List.set_cons_zero, List.set_cons_succ])
                refine wpAnyH_ready (rs := [14]) (by kernel_rfl) (by simp) ?_
                refine AllReadyH.cons (gof_drop rfl) (fun K hK => ?_) AllReadyH.nil
                · have kf := frz_at a13 0
                  have kc : V27.cell? ⟨V22.heap.size, 0, none⟩ = some (.slice none 0 0) := (cell_at a13 0).trans rfl
                  go_simp
                  clear kf kc
                  obtain ⟨V28, hV⟩ : ∃ V, V27.setCell ⟨V22.heap.size, 0, none⟩ (.slice A4 N1 c4) = V := ⟨_, rfl⟩
                  have hfin := hfin (.slice A4 N1 c4)
                  have a13 := heap_set_same _ _ 0 (.slice A4 N1 c4) _ _ a13
                  have lo : Below w5.heap.size w5 V28 := hV ▸ lo.setCell (p := ⟨V22.heap.size, 0, none⟩) (by show w5.heap.size ≤ V22.heap.size; omega) _
                  rw [hV] at hfin a13 ⊢
                  clear hV
                  refine hK.out _ _ (HCell.out _ lo) (fun hHeld => ?_)
                  clear hK K
                  try simp only [Act.put, List.setIfInBounds_toArray, List.set_cons_zero, List.set_cons_succ]
                  (refine gheld_val (i := 15) rfl (by kernel_rfl) (by kernel_rfl) (by kernel_rfl) hHeld (by rfl) ?_; apply Exists.intro; refine ⟨fun wq hSw => ?_, ?_⟩; ((try dsimp only at hSw); obtain ⟨c1, c2, c3⟩ := hSw; go_simp; try rfl); try simp only [Act.put, List.setIfInBounds_toArray, List.set_cons_zero, List.set_cons_succ])
                  refine wpAnyH_done (by kernel_rfl) ⟨rfl, ?_⟩ _
                  exact HRest.out V28 W0.heap.size V1.heap.size V22.heap.size _ _ A4 R4 c4 lo a13 q1 hfin
          · have own0 := own
            go_simp
            obtain ⟨V29, hV⟩ : ∃ V, V21.alloc (.cells #[.slice none 0 0] 24) = V := ⟨_, rfl⟩
            have szq : V29.heap.size = V21.heap.size + 1 := by rw [← hV]; exact World.size_alloc _ _
            have sz : V29.heap.size ≤ V21.heap.size + 1 ∧ V21.heap.size + 1 ≤ V29.heap.size := by omega
            clear szq
            have hb : Below V21.heap.size V21 V29 := hV ▸ one_below _ _
            have gz := lo.size
            have lo := lo.trans (hb.mono lo.size)
            have anew : V29.heap[V21.heap.size]? = some (.cells #[.slice none 0 0] 24 (0, 0)) := hV ▸ World.alloc_heap_new _ _
            have a7 := (hb.block _ (by omega)).trans a7
            have own : V29.ownsRow w5.heap.size 36 2 (.slice Ax5 n cx5) n (acs L) := hV ▸ own.alloc _
            have a13 := anew
            have ne13 : Value.ownBlock (.slice Ax5 n cx5) ≠ some V21.heap.size := fun e => absurd (own_blk_lt own0 e) (Nat.lt_irrefl _)
            clear anew
            rw [hV]
            clear hV
            refine hK.out _ _ (HCell.out _ lo) (fun hHeld => ?_)
            clear hK K
            try simp only [Act.put, List.setIfInBounds_toArray, List.set_cons_zero, List.set_cons_succ]
            refine wpAnyH_ready (rs := [8]) (by kernel_rfl) (by simp) ?_
            refine AllReadyH.cons (gof_drop rfl) (fun K hK => ?_) AllReadyH.nil
            · refine arcs_at (by rfl) (.tmp 61) (.tmp 63) (by rfl) w5.heap.size _ n (acs L) (by rfl) own V1.heap.size 0 1 1 [.int .i64 xa, .int .i64 xb] (by rfl) rfl (fun j u hj => (cell_at a7 _).trans (by rw [Nat.zero_add]; simpa using hj)) (by simp [Value.oneCell']) (by omega) lo.size ?_
              intro v8 V30 own2 gr h4
              have lo2 := lo.trans (grown_low gr own lo.size)
              have gsz := gr.size
              have a13 := (gr.block _ (Array.getElem?_eq_some_iff.1 a13).1 (fun e => ne13 e.symm)).trans a13
              have ne13 : v8.ownBlock ≠ some V21.heap.size := fun e => by rcases h4 with q | q; exact ne13 (q.symm.trans e); have : V29.heap.size = V21.heap.size := Option.some.inj (q.symm.trans e); omega
              have own := own2
              have lo := lo2
              clear own2 lo2 gr h4
              obtain ⟨Ax8, cx8, rfl⟩ := own_sliceT own
              refine hK.out _ _ (HCell.out _ lo) (fun hHeld => ?_)
              clear hK K
              try simp only [Act.put, List.setIfInBounds_toArray, List.set_cons_zero, List.set_cons_succ]
              refine wpAnyH_ready (rs := [9]) (by kernel_rfl) (by simp) ?_
              refine AllReadyH.cons (gof_drop rfl) (fun K hK => ?_) AllReadyH.nil
              · go_simp
                have hrd : RdV V30 V30.heap.size Ax8 (rcs (rz L ++ [(xa, xb)])) := by have := own_rdvA own; rw [rcs_append]; exact this
                refine (HO.out Ax8 cx8 V30 hrd).mono ?_
                rintro e V31 ⟨A4, R4, c4, rfl, q1, rdh, q3⟩
                have gz := lo.size
                have gq := q3.size
                have lo := lo.trans (q3.mono lo.size)
                have alt := (Array.getElem?_eq_some_iff.1 a13).1
                have a13 := (q3.block _ alt).trans a13
                have hfin : ∀ y, RdG (V31.setCell ⟨V21.heap.size, 0, none⟩ y) (V31.setCell ⟨V21.heap.size, 0, none⟩ y).heap.size A4 R4 := fun y => rdh _ (fun k h1 h2 => Below.heap_setCell _ _ _ _ (by show k ≠ V21.heap.size; omega)) (by simp [World.setCell])
                clear hrd
                refine hK.out _ _ (HCell.out _ lo) (fun hHeld => ?_)
                clear hK K
                try simp only [Act.put, List.setIfInBounds_toArray, List.set_cons_zero, List.set_cons_succ]
                (refine gheld_val (i := 10) rfl (by kernel_rfl) (by kernel_rfl) (by kernel_rfl) hHeld (by rfl) ?_; apply Exists.intro; refine ⟨fun wq hSw => ?_, ?_⟩; ((try dsimp only at hSw); obtain ⟨c1, c2, c3⟩ := hSw; go_simp; try rfl); try simp only [Act.put, List.setIfInBounds_toArray, List.set_cons_zero, List.set_cons_succ])
                (refine gheld_val (i := 11) rfl (by kernel_rfl) (by kernel_rfl) (by kernel_rfl) hHeld (by rfl) ?_; apply Exists.intro; refine ⟨fun wq hSw => ?_, ?_⟩; ((try dsimp only at hSw); obtain ⟨c1, c2, c3⟩ := hSw; go_simp; try rfl); try simp only [Act.put, List.setIfInBounds_toArray, List.set_cons_zero, List.set_cons_succ])
                (refine gheld_val (i := 12) rfl (by kernel_rfl) (by kernel_rfl) (by kernel_rfl) hHeld (by rfl) ?_; apply Exists.intro; refine ⟨fun wq hSw => ?_, ?_⟩; ((try dsimp only at hSw); obtain ⟨c1, c2, c3⟩ := hSw; go_simp; try rfl); try simp only [Act.put, List.setIfInBounds_toArray, List.set_cons_zero, List.set_cons_succ])
                refine wpAnyH_ready (rs := [14]) (by kernel_rfl) (by simp) ?_
                refine AllReadyH.cons (gof_drop rfl) (fun K hK => ?_) AllReadyH.nil
                · have kf := frz_at a13 0
                  have kc : V31.cell? ⟨V21.heap.size, 0, none⟩ = some (.slice none 0 0) := (cell_at a13 0).trans rfl
                  go_simp
                  clear kf kc
                  obtain ⟨V32, hV⟩ : ∃ V, V31.setCell ⟨V21.heap.size, 0, none⟩ (.slice A4 N1 c4) = V := ⟨_, rfl⟩
                  have hfin := hfin (.slice A4 N1 c4)
                  have a13 := heap_set_same _ _ 0 (.slice A4 N1 c4) _ _ a13
                  have lo : Below w5.heap.size w5 V32 := hV ▸ lo.setCell (p := ⟨V21.heap.size, 0, none⟩) (by show w5.heap.size ≤ V21.heap.size; omega) _
                  rw [hV] at hfin a13 ⊢
                  clear hV
                  refine hK.out _ _ (HCell.out _ lo) (fun hHeld => ?_)
                  clear hK K
                  try simp only [Act.put, List.setIfInBounds_toArray, List.set_cons_zero, List.set_cons_succ]
                  (refine gheld_val (i := 15) rfl (by kernel_rfl) (by kernel_rfl) (by kernel_rfl) hHeld (by rfl) ?_; apply Exists.intro; refine ⟨fun wq hSw => ?_, ?_⟩; ((try dsimp only at hSw); obtain ⟨c1, c2, c3⟩ := hSw; go_simp; try rfl); try simp only [Act.put, List.setIfInBounds_toArray, List.set_cons_zero, List.set_cons_succ])
                  refine wpAnyH_done (by kernel_rfl) ⟨rfl, ?_⟩ _
                  exact HRest.out V32 W0.heap.size V1.heap.size V21.heap.size _ _ A4 R4 c4 lo a13 q1 hfin
        · have own0 := own
          go_simp
          obtain ⟨V33, hV⟩ : ∃ V, V20.alloc (.cells #[.slice none 0 0] 24) = V := ⟨_, rfl⟩
          have szq : V33.heap.size = V20.heap.size + 1 := by rw [← hV]; exact World.size_alloc _ _
          have sz : V33.heap.size ≤ V20.heap.size + 1 ∧ V20.heap.size + 1 ≤ V33.heap.size := by omega
          clear szq
          have hb : Below V20.heap.size V20 V33 := hV ▸ one_below _ _
          have gz := lo.size
          have lo := lo.trans (hb.mono lo.size)
          have anew : V33.heap[V20.heap.size]? = some (.cells #[.slice none 0 0] 24 (0, 0)) := hV ▸ World.alloc_heap_new _ _
          have a7 := (hb.block _ (by omega)).trans a7
          have own : V33.ownsRow w5.heap.size 36 2 (.slice (some ⟨W0.heap.size, 0, none⟩) 0 0) 0 [] := hV ▸ own.alloc _
          have a13 := anew
          have ne13 : Value.ownBlock (.slice (some ⟨W0.heap.size, 0, none⟩) 0 0) ≠ some V20.heap.size := fun e => absurd (own_blk_lt own0 e) (Nat.lt_irrefl _)
          clear anew
          rw [hV]
          clear hV
          refine hK.out _ _ (HCell.out _ lo) (fun hHeld => ?_)
          clear hK K
          try simp only [Act.put, List.setIfInBounds_toArray, List.set_cons_zero, List.set_cons_succ]
          refine wpAnyH_ready (rs := [5]) (by kernel_rfl) (by simp) ?_
          refine AllReadyH.cons (gof_drop rfl) (fun K hK => ?_) AllReadyH.nil
          · refine arcs_atN (by rfl) (.tmp 59) (.tmp 60) (by rfl) w5.heap.size _ 0 [] (by rfl) own A1 n c1 (acs L) (by rfl) hcp.2 hcp.1 hacl (HArc.out _ lo) (acs_one _) (by omega) lo.size ?_
            intro v5 V34 own2 gr h4
            have lo2 := lo.trans (grown_low gr own lo.size)
            have gsz := gr.size
            have a7 := (gr.block _ (Array.getElem?_eq_some_iff.1 a7).1 (fun e => ne7 e.symm)).trans a7
            have ne7 : v5.ownBlock ≠ some V1.heap.size := fun e => by rcases h4 with q | q; exact ne7 (q.symm.trans e); have : V33.heap.size = V1.heap.size := Option.some.inj (q.symm.trans e); omega
            have a13 := (gr.block _ (Array.getElem?_eq_some_iff.1 a13).1 (fun e => ne13 e.symm)).trans a13
            have ne13 : v5.ownBlock ≠ some V20.heap.size := fun e => by rcases h4 with q | q; exact ne13 (q.symm.trans e); have : V33.heap.size = V20.heap.size := Option.some.inj (q.symm.trans e); omega
            have own := own2
            have lo := lo2
            clear own2 lo2 gr h4
            rw [Nat.zero_add, List.nil_append] at own
            obtain ⟨Ax5, cx5, rfl⟩ := own_sliceT own
            refine hK.out _ _ (HCell.out _ lo) (fun hHeld => ?_)
            clear hK K
            try simp only [Act.put, List.setIfInBounds_toArray, List.set_cons_zero, List.set_cons_succ]
            refine wpAnyH_ready (rs := [8]) (by kernel_rfl) (by simp) ?_
            refine AllReadyH.cons (gof_drop rfl) (fun K hK => ?_) AllReadyH.nil
            · refine arcs_at (by rfl) (.tmp 61) (.tmp 63) (by rfl) w5.heap.size _ n (acs L) (by rfl) own V1.heap.size 0 1 1 [.int .i64 xa, .int .i64 xb] (by rfl) rfl (fun j u hj => (cell_at a7 _).trans (by rw [Nat.zero_add]; simpa using hj)) (by simp [Value.oneCell']) (by omega) lo.size ?_
              intro v8 V35 own2 gr h4
              have lo2 := lo.trans (grown_low gr own lo.size)
              have gsz := gr.size
              have a13 := (gr.block _ (Array.getElem?_eq_some_iff.1 a13).1 (fun e => ne13 e.symm)).trans a13
              have ne13 : v8.ownBlock ≠ some V20.heap.size := fun e => by rcases h4 with q | q; exact ne13 (q.symm.trans e); have : V34.heap.size = V20.heap.size := Option.some.inj (q.symm.trans e); omega
              have own := own2
              have lo := lo2
              clear own2 lo2 gr h4
              obtain ⟨Ax8, cx8, rfl⟩ := own_sliceT own
              refine hK.out _ _ (HCell.out _ lo) (fun hHeld => ?_)
              clear hK K
              try simp only [Act.put, List.setIfInBounds_toArray, List.set_cons_zero, List.set_cons_succ]
              refine wpAnyH_ready (rs := [9]) (by kernel_rfl) (by simp) ?_
              refine AllReadyH.cons (gof_drop rfl) (fun K hK => ?_) AllReadyH.nil
              · go_simp
                have hrd : RdV V35 V35.heap.size Ax8 (rcs (rz L ++ [(xa, xb)])) := by have := own_rdvA own; rw [rcs_append]; exact this
                refine (HO.out Ax8 cx8 V35 hrd).mono ?_
                rintro e V36 ⟨A4, R4, c4, rfl, q1, rdh, q3⟩
                have gz := lo.size
                have gq := q3.size
                have lo := lo.trans (q3.mono lo.size)
                have alt := (Array.getElem?_eq_some_iff.1 a13).1
                have a13 := (q3.block _ alt).trans a13
                have hfin : ∀ y, RdG (V36.setCell ⟨V20.heap.size, 0, none⟩ y) (V36.setCell ⟨V20.heap.size, 0, none⟩ y).heap.size A4 R4 := fun y => rdh _ (fun k h1 h2 => Below.heap_setCell _ _ _ _ (by show k ≠ V20.heap.size; omega)) (by simp [World.setCell])
                clear hrd
                refine hK.out _ _ (HCell.out _ lo) (fun hHeld => ?_)
                clear hK K
                try simp only [Act.put, List.setIfInBounds_toArray, List.set_cons_zero, List.set_cons_succ]
                (refine gheld_val (i := 10) rfl (by kernel_rfl) (by kernel_rfl) (by kernel_rfl) hHeld (by rfl) ?_; apply Exists.intro; refine ⟨fun wq hSw => ?_, ?_⟩; ((try dsimp only at hSw); obtain ⟨c1, c2, c3⟩ := hSw; go_simp; try rfl); try simp only [Act.put, List.setIfInBounds_toArray, List.set_cons_zero, List.set_cons_succ])
                (refine gheld_val (i := 11) rfl (by kernel_rfl) (by kernel_rfl) (by kernel_rfl) hHeld (by rfl) ?_; apply Exists.intro; refine ⟨fun wq hSw => ?_, ?_⟩; ((try dsimp only at hSw); obtain ⟨c1, c2, c3⟩ := hSw; go_simp; try rfl); try simp only [Act.put, List.setIfInBounds_toArray, List.set_cons_zero, List.set_cons_succ])
                (refine gheld_val (i := 12) rfl (by kernel_rfl) (by kernel_rfl) (by kernel_rfl) hHeld (by rfl) ?_; apply Exists.intro; refine ⟨fun wq hSw => ?_, ?_⟩; ((try dsimp only at hSw); obtain ⟨c1, c2, c3⟩ := hSw; go_simp; try rfl); try simp only [Act.put, List.setIfInBounds_toArray, List.set_cons_zero, List.set_cons_succ])
                refine wpAnyH_ready (rs := [14]) (by kernel_rfl) (by simp) ?_
                refine AllReadyH.cons (gof_drop rfl) (fun K hK => ?_) AllReadyH.nil
                · have kf := frz_at a13 0
                  have kc : V36.cell? ⟨V20.heap.size, 0, none⟩ = some (.slice none 0 0) := (cell_at a13 0).trans rfl
                  go_simp
                  clear kf kc
                  obtain ⟨V37, hV⟩ : ∃ V, V36.setCell ⟨V20.heap.size, 0, none⟩ (.slice A4 N1 c4) = V := ⟨_, rfl⟩
                  have hfin := hfin (.slice A4 N1 c4)
                  have a13 := heap_set_same _ _ 0 (.slice A4 N1 c4) _ _ a13
                  have lo : Below w5.heap.size w5 V37 := hV ▸ lo.setCell (p := ⟨V20.heap.size, 0, none⟩) (by show w5.heap.size ≤ V20.heap.size; omega) _
                  rw [hV] at hfin a13 ⊢
                  clear hV
                  refine hK.out _ _ (HCell.out _ lo) (fun hHeld => ?_)
                  clear hK K
                  try simp only [Act.put, List.setIfInBounds_toArray, List.set_cons_zero, List.set_cons_succ]
                  (refine gheld_val (i := 15) rfl (by kernel_rfl) (by kernel_rfl) (by kernel_rfl) hHeld (by rfl) ?_; apply Exists.intro; refine ⟨fun wq hSw => ?_, ?_⟩; ((try dsimp only at hSw); obtain ⟨c1, c2, c3⟩ := hSw; go_simp; try rfl); try simp only [Act.put, List.setIfInBounds_toArray, List.set_cons_zero, List.set_cons_succ])
                  refine wpAnyH_done (by kernel_rfl) ⟨rfl, ?_⟩ _
                  exact HRest.out V37 W0.heap.size V1.heap.size V20.heap.size _ _ A4 R4 c4 lo a13 q1 hfin
      · have own0 := own
        go_simp
        obtain ⟨V38, hV⟩ : ∃ V, V1.alloc (.cells #[.slice none 0 0] 24) = V := ⟨_, rfl⟩
        have szq : V38.heap.size = V1.heap.size + 1 := by rw [← hV]; exact World.size_alloc _ _
        have sz : V38.heap.size ≤ V1.heap.size + 1 ∧ V1.heap.size + 1 ≤ V38.heap.size := by omega
        clear szq
        have hb : Below V1.heap.size V1 V38 := hV ▸ one_below _ _
        have gz := lo.size
        have lo := lo.trans (hb.mono lo.size)
        have anew : V38.heap[V1.heap.size]? = some (.cells #[.slice none 0 0] 24 (0, 0)) := hV ▸ World.alloc_heap_new _ _
        have own : V38.ownsRow w5.heap.size 36 2 (.slice (some ⟨W0.heap.size, 0, none⟩) 0 0) 0 [] := hV ▸ own.alloc _
        have a13 := anew
        have ne13 : Value.ownBlock (.slice (some ⟨W0.heap.size, 0, none⟩) 0 0) ≠ some V1.heap.size := fun e => absurd (own_blk_lt own0 e) (Nat.lt_irrefl _)
        clear anew
        rw [hV]
        clear hV
        refine hK.out _ _ (HCell.out _ lo) (fun hHeld => ?_)
        clear hK K
        try simp only [Act.put, List.setIfInBounds_toArray, List.set_cons_zero, List.set_cons_succ]
        refine wpAnyH_ready (rs := [5, 7]) (by kernel_rfl) (by simp) ?_
        refine AllReadyH.cons (gof_drop rfl) (fun K hK => ?_) (AllReadyH.cons (gof_drop rfl) (fun K hK => ?_) AllReadyH.nil)
        · refine arcs_atN (by rfl) (.tmp 59) (.tmp 60) (by rfl) w5.heap.size _ 0 [] (by rfl) own A1 n c1 (acs L) (by rfl) hcp.2 hcp.1 hacl (HArc.out _ lo) (acs_one _) (by omega) lo.size ?_
          intro v5 V39 own2 gr h4
          have lo2 := lo.trans (grown_low gr own lo.size)
          have gsz := gr.size
          have a13 := (gr.block _ (Array.getElem?_eq_some_iff.1 a13).1 (fun e => ne13 e.symm)).trans a13
          have ne13 : v5.ownBlock ≠ some V1.heap.size := fun e => by rcases h4 with q | q; exact ne13 (q.symm.trans e); have : V38.heap.size = V1.heap.size := Option.some.inj (q.symm.trans e); omega
          have own := own2
          have lo := lo2
          clear own2 lo2 gr h4
          rw [Nat.zero_add, List.nil_append] at own
          obtain ⟨Ax5, cx5, rfl⟩ := own_sliceT own
          refine hK.out _ _ (HCell.out _ lo) (fun hHeld => ?_)
          clear hK K
          try simp only [Act.put, List.setIfInBounds_toArray, List.set_cons_zero, List.set_cons_succ]
          refine wpAnyH_ready (rs := [7]) (by kernel_rfl) (by simp) ?_
          refine AllReadyH.cons (gof_drop rfl) (fun K hK => ?_) AllReadyH.nil
          · have own0 := own
            go_simp
            obtain ⟨V40, hV⟩ : ∃ V, V39.alloc (.cells #[.int .i64 xa, .int .i64 xb] 36) = V := ⟨_, rfl⟩
            have szq : V40.heap.size = V39.heap.size + 1 := by rw [← hV]; exact World.size_alloc _ _
            have sz : V40.heap.size ≤ V39.heap.size + 1 ∧ V39.heap.size + 1 ≤ V40.heap.size := by omega
            clear szq
            have hb : Below V39.heap.size V39 V40 := hV ▸ one_below _ _
            have gz := lo.size
            have lo := lo.trans (hb.mono lo.size)
            have anew : V40.heap[V39.heap.size]? = some (.cells #[.int .i64 xa, .int .i64 xb] 36 (0, 0)) := hV ▸ World.alloc_heap_new _ _
            have a13 := (hb.block _ (by omega)).trans a13
            have own : V40.ownsRow w5.heap.size 36 2 (.slice Ax5 n cx5) n (acs L) := hV ▸ own.alloc _
            have a7 := anew
            have ne7 : Value.ownBlock (.slice Ax5 n cx5) ≠ some V39.heap.size := fun e => absurd (own_blk_lt own0 e) (Nat.lt_irrefl _)
            clear anew
            rw [hV]
            clear hV
            refine hK.out _ _ (HCell.out _ lo) (fun hHeld => ?_)
            clear hK K
            try simp only [Act.put, List.setIfInBounds_toArray, List.set_cons_zero, List.set_cons_succ]
            refine wpAnyH_ready (rs := [8]) (by kernel_rfl) (by simp) ?_
            refine AllReadyH.cons (gof_drop rfl) (fun K hK => ?_) AllReadyH.nil
            · refine arcs_at (by rfl) (.tmp 61) (.tmp 63) (by rfl) w5.heap.size _ n (acs L) (by rfl) own V39.heap.size 0 1 1 [.int .i64 xa, .int .i64 xb] (by rfl) rfl (fun j u hj => (cell_at a7 _).trans (by rw [Nat.zero_add]; simpa using hj)) (by simp [Value.oneCell']) (by omega) lo.size ?_
              intro v8 V41 own2 gr h4
              have lo2 := lo.trans (grown_low gr own lo.size)
              have gsz := gr.size
              have a13 := (gr.block _ (Array.getElem?_eq_some_iff.1 a13).1 (fun e => ne13 e.symm)).trans a13
              have ne13 : v8.ownBlock ≠ some V1.heap.size := fun e => by rcases h4 with q | q; exact ne13 (q.symm.trans e); have : V40.heap.size = V1.heap.size := Option.some.inj (q.symm.trans e); omega
              have own := own2
              have lo := lo2
              clear own2 lo2 gr h4
              obtain ⟨Ax8, cx8, rfl⟩ := own_sliceT own
              refine hK.out _ _ (HCell.out _ lo) (fun hHeld => ?_)
              clear hK K
              try simp only [Act.put, List.setIfInBounds_toArray, List.set_cons_zero, List.set_cons_succ]
              refine wpAnyH_ready (rs := [9]) (by kernel_rfl) (by simp) ?_
              refine AllReadyH.cons (gof_drop rfl) (fun K hK => ?_) AllReadyH.nil
              · go_simp
                have hrd : RdV V41 V41.heap.size Ax8 (rcs (rz L ++ [(xa, xb)])) := by have := own_rdvA own; rw [rcs_append]; exact this
                refine (HO.out Ax8 cx8 V41 hrd).mono ?_
                rintro e V42 ⟨A4, R4, c4, rfl, q1, rdh, q3⟩
                have gz := lo.size
                have gq := q3.size
                have lo := lo.trans (q3.mono lo.size)
                have alt := (Array.getElem?_eq_some_iff.1 a13).1
                have a13 := (q3.block _ alt).trans a13
                have hfin : ∀ y, RdG (V42.setCell ⟨V1.heap.size, 0, none⟩ y) (V42.setCell ⟨V1.heap.size, 0, none⟩ y).heap.size A4 R4 := fun y => rdh _ (fun k h1 h2 => Below.heap_setCell _ _ _ _ (by show k ≠ V1.heap.size; omega)) (by simp [World.setCell])
                clear hrd
                refine hK.out _ _ (HCell.out _ lo) (fun hHeld => ?_)
                clear hK K
                try simp only [Act.put, List.setIfInBounds_toArray, List.set_cons_zero, List.set_cons_succ]
                (refine gheld_val (i := 10) rfl (by kernel_rfl) (by kernel_rfl) (by kernel_rfl) hHeld (by rfl) ?_; apply Exists.intro; refine ⟨fun wq hSw => ?_, ?_⟩; ((try dsimp only at hSw); obtain ⟨c1, c2, c3⟩ := hSw; go_simp; try rfl); try simp only [Act.put, List.setIfInBounds_toArray, List.set_cons_zero, List.set_cons_succ])
                (refine gheld_val (i := 11) rfl (by kernel_rfl) (by kernel_rfl) (by kernel_rfl) hHeld (by rfl) ?_; apply Exists.intro; refine ⟨fun wq hSw => ?_, ?_⟩; ((try dsimp only at hSw); obtain ⟨c1, c2, c3⟩ := hSw; go_simp; try rfl); try simp only [Act.put, List.setIfInBounds_toArray, List.set_cons_zero, List.set_cons_succ])
                (refine gheld_val (i := 12) rfl (by kernel_rfl) (by kernel_rfl) (by kernel_rfl) hHeld (by rfl) ?_; apply Exists.intro; refine ⟨fun wq hSw => ?_, ?_⟩; ((try dsimp only at hSw); obtain ⟨c1, c2, c3⟩ := hSw; go_simp; try rfl); try simp only [Act.put, List.setIfInBounds_toArray, List.set_cons_zero, List.set_cons_succ])
                refine wpAnyH_ready (rs := [14]) (by kernel_rfl) (by simp) ?_
                refine AllReadyH.cons (gof_drop rfl) (fun K hK => ?_) AllReadyH.nil
                · have kf := frz_at a13 0
                  have kc : V42.cell? ⟨V1.heap.size, 0, none⟩ = some (.slice none 0 0) := (cell_at a13 0).trans rfl
                  go_simp
                  clear kf kc
                  obtain ⟨V43, hV⟩ : ∃ V, V42.setCell ⟨V1.heap.size, 0, none⟩ (.slice A4 N1 c4) = V := ⟨_, rfl⟩
                  have hfin := hfin (.slice A4 N1 c4)
                  have a13 := heap_set_same _ _ 0 (.slice A4 N1 c4) _ _ a13
                  have lo : Below w5.heap.size w5 V43 := hV ▸ lo.setCell (p := ⟨V1.heap.size, 0, none⟩) (by show w5.heap.size ≤ V1.heap.size; omega) _
                  rw [hV] at hfin a13 ⊢
                  clear hV
                  refine hK.out _ _ (HCell.out _ lo) (fun hHeld => ?_)
                  clear hK K
                  try simp only [Act.put, List.setIfInBounds_toArray, List.set_cons_zero, List.set_cons_succ]
                  (refine gheld_val (i := 15) rfl (by kernel_rfl) (by kernel_rfl) (by kernel_rfl) hHeld (by rfl) ?_; apply Exists.intro; refine ⟨fun wq hSw => ?_, ?_⟩; ((try dsimp only at hSw); obtain ⟨c1, c2, c3⟩ := hSw; go_simp; try rfl); try simp only [Act.put, List.setIfInBounds_toArray, List.set_cons_zero, List.set_cons_succ])
                  refine wpAnyH_done (by kernel_rfl) ⟨rfl, ?_⟩ _
                  exact HRest.out V43 W0.heap.size V39.heap.size V1.heap.size _ _ A4 R4 c4 lo a13 q1 hfin
        · have own0 := own
          go_simp
          obtain ⟨V44, hV⟩ : ∃ V, V38.alloc (.cells #[.int .i64 xa, .int .i64 xb] 36) = V := ⟨_, rfl⟩
          have szq : V44.heap.size = V38.heap.size + 1 := by rw [← hV]; exact World.size_alloc _ _
          have sz : V44.heap.size ≤ V38.heap.size + 1 ∧ V38.heap.size + 1 ≤ V44.heap.size := by omega
          clear szq
          have hb : Below V38.heap.size V38 V44 := hV ▸ one_below _ _
          have gz := lo.size
          have lo := lo.trans (hb.mono lo.size)
          have anew : V44.heap[V38.heap.size]? = some (.cells #[.int .i64 xa, .int .i64 xb] 36 (0, 0)) := hV ▸ World.alloc_heap_new _ _
          have a13 := (hb.block _ (by omega)).trans a13
          have own : V44.ownsRow w5.heap.size 36 2 (.slice (some ⟨W0.heap.size, 0, none⟩) 0 0) 0 [] := hV ▸ own.alloc _
          have a7 := anew
          have ne7 : Value.ownBlock (.slice (some ⟨W0.heap.size, 0, none⟩) 0 0) ≠ some V38.heap.size := fun e => absurd (own_blk_lt own0 e) (Nat.lt_irrefl _)
          clear anew
          rw [hV]
          clear hV
          refine hK.out _ _ (HCell.out _ lo) (fun hHeld => ?_)
          clear hK K
          try simp only [Act.put, List.setIfInBounds_toArray, List.set_cons_zero, List.set_cons_succ]
          refine wpAnyH_ready (rs := [5]) (by kernel_rfl) (by simp) ?_
          refine AllReadyH.cons (gof_drop rfl) (fun K hK => ?_) AllReadyH.nil
          · refine arcs_atN (by rfl) (.tmp 59) (.tmp 60) (by rfl) w5.heap.size _ 0 [] (by rfl) own A1 n c1 (acs L) (by rfl) hcp.2 hcp.1 hacl (HArc.out _ lo) (acs_one _) (by omega) lo.size ?_
            intro v5 V45 own2 gr h4
            have lo2 := lo.trans (grown_low gr own lo.size)
            have gsz := gr.size
            have a7 := (gr.block _ (Array.getElem?_eq_some_iff.1 a7).1 (fun e => ne7 e.symm)).trans a7
            have ne7 : v5.ownBlock ≠ some V38.heap.size := fun e => by rcases h4 with q | q; exact ne7 (q.symm.trans e); have : V44.heap.size = V38.heap.size := Option.some.inj (q.symm.trans e); omega
            have a13 := (gr.block _ (Array.getElem?_eq_some_iff.1 a13).1 (fun e => ne13 e.symm)).trans a13
            have ne13 : v5.ownBlock ≠ some V1.heap.size := fun e => by rcases h4 with q | q; exact ne13 (q.symm.trans e); have : V44.heap.size = V1.heap.size := Option.some.inj (q.symm.trans e); omega
            have own := own2
            have lo := lo2
            clear own2 lo2 gr h4
            rw [Nat.zero_add, List.nil_append] at own
            obtain ⟨Ax5, cx5, rfl⟩ := own_sliceT own
            refine hK.out _ _ (HCell.out _ lo) (fun hHeld => ?_)
            clear hK K
            try simp only [Act.put, List.setIfInBounds_toArray, List.set_cons_zero, List.set_cons_succ]
            refine wpAnyH_ready (rs := [8]) (by kernel_rfl) (by simp) ?_
            refine AllReadyH.cons (gof_drop rfl) (fun K hK => ?_) AllReadyH.nil
            · refine arcs_at (by rfl) (.tmp 61) (.tmp 63) (by rfl) w5.heap.size _ n (acs L) (by rfl) own V38.heap.size 0 1 1 [.int .i64 xa, .int .i64 xb] (by rfl) rfl (fun j u hj => (cell_at a7 _).trans (by rw [Nat.zero_add]; simpa using hj)) (by simp [Value.oneCell']) (by omega) lo.size ?_
              intro v8 V46 own2 gr h4
              have lo2 := lo.trans (grown_low gr own lo.size)
              have gsz := gr.size
              have a13 := (gr.block _ (Array.getElem?_eq_some_iff.1 a13).1 (fun e => ne13 e.symm)).trans a13
              have ne13 : v8.ownBlock ≠ some V1.heap.size := fun e => by rcases h4 with q | q; exact ne13 (q.symm.trans e); have : V45.heap.size = V1.heap.size := Option.some.inj (q.symm.trans e); omega
              have own := own2
              have lo := lo2
              clear own2 lo2 gr h4
              obtain ⟨Ax8, cx8, rfl⟩ := own_sliceT own
              refine hK.out _ _ (HCell.out _ lo) (fun hHeld => ?_)
              clear hK K
              try simp only [Act.put, List.setIfInBounds_toArray, List.set_cons_zero, List.set_cons_succ]
              refine wpAnyH_ready (rs := [9]) (by kernel_rfl) (by simp) ?_
              refine AllReadyH.cons (gof_drop rfl) (fun K hK => ?_) AllReadyH.nil
              · go_simp
                have hrd : RdV V46 V46.heap.size Ax8 (rcs (rz L ++ [(xa, xb)])) := by have := own_rdvA own; rw [rcs_append]; exact this
                refine (HO.out Ax8 cx8 V46 hrd).mono ?_
                rintro e V47 ⟨A4, R4, c4, rfl, q1, rdh, q3⟩
                have gz := lo.size
                have gq := q3.size
                have lo := lo.trans (q3.mono lo.size)
                have alt := (Array.getElem?_eq_some_iff.1 a13).1
                have a13 := (q3.block _ alt).trans a13
                have hfin : ∀ y, RdG (V47.setCell ⟨V1.heap.size, 0, none⟩ y) (V47.setCell ⟨V1.heap.size, 0, none⟩ y).heap.size A4 R4 := fun y => rdh _ (fun k h1 h2 => Below.heap_setCell _ _ _ _ (by show k ≠ V1.heap.size; omega)) (by simp [World.setCell])
                clear hrd
                refine hK.out _ _ (HCell.out _ lo) (fun hHeld => ?_)
                clear hK K
                try simp only [Act.put, List.setIfInBounds_toArray, List.set_cons_zero, List.set_cons_succ]
                (refine gheld_val (i := 10) rfl (by kernel_rfl) (by kernel_rfl) (by kernel_rfl) hHeld (by rfl) ?_; apply Exists.intro; refine ⟨fun wq hSw => ?_, ?_⟩; ((try dsimp only at hSw); obtain ⟨c1, c2, c3⟩ := hSw; go_simp; try rfl); try simp only [Act.put, List.setIfInBounds_toArray, List.set_cons_zero, List.set_cons_succ])
                (refine gheld_val (i := 11) rfl (by kernel_rfl) (by kernel_rfl) (by kernel_rfl) hHeld (by rfl) ?_; apply Exists.intro; refine ⟨fun wq hSw => ?_, ?_⟩; ((try dsimp only at hSw); obtain ⟨c1, c2, c3⟩ := hSw; go_simp; try rfl); try simp only [Act.put, List.setIfInBounds_toArray, List.set_cons_zero, List.set_cons_succ])
                (refine gheld_val (i := 12) rfl (by kernel_rfl) (by kernel_rfl) (by kernel_rfl) hHeld (by rfl) ?_; apply Exists.intro; refine ⟨fun wq hSw => ?_, ?_⟩; ((try dsimp only at hSw); obtain ⟨c1, c2, c3⟩ := hSw; go_simp; try rfl); try simp only [Act.put, List.setIfInBounds_toArray, List.set_cons_zero, List.set_cons_succ])
                refine wpAnyH_ready (rs := [14]) (by kernel_rfl) (by simp) ?_
                refine AllReadyH.cons (gof_drop rfl) (fun K hK => ?_) AllReadyH.nil
                · have kf := frz_at a13 0
                  have kc : V47.cell? ⟨V1.heap.size, 0, none⟩ = some (.slice none 0 0) := (cell_at a13 0).trans rfl
                  go_simp
                  clear kf kc
                  obtain ⟨V48, hV⟩ : ∃ V, V47.setCell ⟨V1.heap.size, 0, none⟩ (.slice A4 N1 c4) = V := ⟨_, rfl⟩
                  have hfin := hfin (.slice A4 N1 c4)
                  have a13 := heap_set_same _ _ 0 (.slice A4 N1 c4) _ _ a13
                  have lo : Below w5.heap.size w5 V48 := hV ▸ lo.setCell (p := ⟨V1.heap.size, 0, none⟩) (by show w5.heap.size ≤ V1.heap.size; omega) _
                  rw [hV] at hfin a13 ⊢
                  clear hV
                  refine hK.out _ _ (HCell.out _ lo) (fun hHeld => ?_)
                  clear hK K
                  try simp only [Act.put, List.setIfInBounds_toArray, List.set_cons_zero, List.set_cons_succ]
                  (refine gheld_val (i := 15) rfl (by kernel_rfl) (by kernel_rfl) (by kernel_rfl) hHeld (by rfl) ?_; apply Exists.intro; refine ⟨fun wq hSw => ?_, ?_⟩; ((try dsimp only at hSw); obtain ⟨c1, c2, c3⟩ := hSw; go_simp; try rfl); try simp only [Act.put, List.setIfInBounds_toArray, List.set_cons_zero, List.set_cons_succ])
                  refine wpAnyH_done (by kernel_rfl) ⟨rfl, ?_⟩ _
                  exact HRest.out V48 W0.heap.size V38.heap.size V1.heap.size _ _ A4 R4 c4 lo a13 q1 hfin
    · go_simp
      obtain ⟨V49, hV⟩ : ∃ V, W0.alloc (.cells #[.int .i64 xa, .int .i64 xb] 36) = V := ⟨_, rfl⟩
      have szq : V49.heap.size = W0.heap.size + 1 := by rw [← hV]; exact World.size_alloc _ _
      have sz : V49.heap.size ≤ W0.heap.size + 1 ∧ W0.heap.size + 1 ≤ V49.heap.size := by omega
      clear szq
      have hb : Below W0.heap.size W0 V49 := hV ▸ one_below _ _
      have gz := lo.size
      have lo := lo.trans (hb.mono lo.size)
      have anew : V49.heap[W0.heap.size]? = some (.cells #[.int .i64 xa, .int .i64 xb] 36 (0, 0)) := hV ▸ World.alloc_heap_new _ _
      have a7 := anew
      clear anew
      rw [hV]
      clear hV
      refine hK.out _ _ (HCell.out _ lo) (fun hHeld => ?_)
      clear hK K
      try simp only [Act.put, List.setIfInBounds_toArray, List.set_cons_zero, List.set_cons_succ]
      refine wpAnyH_ready (rs := [3, 13]) (by kernel_rfl) (by simp) ?_
      refine AllReadyH.cons (gof_drop rfl) (fun K hK => ?_) (AllReadyH.cons (gof_drop rfl) (fun K hK => ?_) AllReadyH.nil)
      · go_simp
        obtain ⟨V50, hV⟩ : ∃ V, V49.alloc (.cells #[] 36) = V := ⟨_, rfl⟩
        have szq : V50.heap.size = V49.heap.size + 1 := by rw [← hV]; exact World.size_alloc _ _
        have sz : V50.heap.size ≤ V49.heap.size + 1 ∧ V49.heap.size + 1 ≤ V50.heap.size := by omega
        clear szq
        have hb : Below V49.heap.size V49 V50 := hV ▸ one_below _ _
        have gz := lo.size
        have lo := lo.trans (hb.mono lo.size)
        have anew : V50.heap[V49.heap.size]? = some (.cells #[] 36 (0, 0)) := hV ▸ World.alloc_heap_new _ _
        have a7 := (hb.block _ (by omega)).trans a7
        have own : V50.ownsRow w5.heap.size 36 2 (.slice (some ⟨V49.heap.size, 0, none⟩) 0 0) 0 [] := ⟨rfl, .inr ⟨V49.heap.size, 0, #[], rfl, by omega, anew, by omega, by decide, rfl, rfl⟩⟩
        have ne7 : (Value.slice (some ⟨V49.heap.size, 0, none⟩) 0 0).ownBlock ≠ some W0.heap.size := fun e => by have : V49.heap.size = W0.heap.size := Option.some.inj e; omega
        clear anew
        rw [hV]
        clear hV
        refine hK.out _ _ (HCell.out _ lo) (fun hHeld => ?_)
        clear hK K
        try simp only [Act.put, List.setIfInBounds_toArray, List.set_cons_zero, List.set_cons_succ]
        refine wpAnyH_ready (rs := [5, 13]) (by kernel_rfl) (by simp) ?_
        refine AllReadyH.cons (gof_drop rfl) (fun K hK => ?_) (AllReadyH.cons (gof_drop rfl) (fun K hK => ?_) AllReadyH.nil)
        · refine arcs_atN (by rfl) (.tmp 59) (.tmp 60) (by rfl) w5.heap.size _ 0 [] (by rfl) own A1 n c1 (acs L) (by rfl) hcp.2 hcp.1 hacl (HArc.out _ lo) (acs_one _) (by omega) lo.size ?_
          intro v5 V51 own2 gr h4
          have lo2 := lo.trans (grown_low gr own lo.size)
          have gsz := gr.size
          have a7 := (gr.block _ (Array.getElem?_eq_some_iff.1 a7).1 (fun e => ne7 e.symm)).trans a7
          have ne7 : v5.ownBlock ≠ some W0.heap.size := fun e => by rcases h4 with q | q; exact ne7 (q.symm.trans e); have : V50.heap.size = W0.heap.size := Option.some.inj (q.symm.trans e); omega
          have own := own2
          have lo := lo2
          clear own2 lo2 gr h4
          rw [Nat.zero_add, List.nil_append] at own
          obtain ⟨Ax5, cx5, rfl⟩ := own_sliceT own
          refine hK.out _ _ (HCell.out _ lo) (fun hHeld => ?_)
          clear hK K
          try simp only [Act.put, List.setIfInBounds_toArray, List.set_cons_zero, List.set_cons_succ]
          refine wpAnyH_ready (rs := [8, 13]) (by kernel_rfl) (by simp) ?_
          refine AllReadyH.cons (gof_drop rfl) (fun K hK => ?_) (AllReadyH.cons (gof_drop rfl) (fun K hK => ?_) AllReadyH.nil)
          · refine arcs_at (by rfl) (.tmp 61) (.tmp 63) (by rfl) w5.heap.size _ n (acs L) (by rfl) own W0.heap.size 0 1 1 [.int .i64 xa, .int .i64 xb] (by rfl) rfl (fun j u hj => (cell_at a7 _).trans (by rw [Nat.zero_add]; simpa using hj)) (by simp [Value.oneCell']) (by omega) lo.size ?_
            intro v8 V52 own2 gr h4
            have lo2 := lo.trans (grown_low gr own lo.size)
            have gsz := gr.size
            have own := own2
            have lo := lo2
            clear own2 lo2 gr h4
            obtain ⟨Ax8, cx8, rfl⟩ := own_sliceT own
            refine hK.out _ _ (HCell.out _ lo) (fun hHeld => ?_)
            clear hK K
            try simp only [Act.put, List.setIfInBounds_toArray, List.set_cons_zero, List.set_cons_succ]
            refine wpAnyH_ready (rs := [9, 13]) (by kernel_rfl) (by simp) ?_
            refine AllReadyH.cons (gof_drop rfl) (fun K hK => ?_) (AllReadyH.cons (gof_drop rfl) (fun K hK => ?_) AllReadyH.nil)
            · go_simp
              have hrd : RdV V52 V52.heap.size Ax8 (rcs (rz L ++ [(xa, xb)])) := by have := own_rdvA own; rw [rcs_append]; exact this
              refine (HO.out Ax8 cx8 V52 hrd).mono ?_
              rintro e V53 ⟨A4, R4, c4, rfl, q1, rdh, q3⟩
              have gz := lo.size
              have gq := q3.size
              have lo := lo.trans (q3.mono lo.size)
              clear hrd
              refine hK.out _ _ (HCell.out _ lo) (fun hHeld => ?_)
              clear hK K
              try simp only [Act.put, List.setIfInBounds_toArray, List.set_cons_zero, List.set_cons_succ]
              (refine gheld_val (i := 10) rfl (by kernel_rfl) (by kernel_rfl) (by kernel_rfl) hHeld (by rfl) ?_; apply Exists.intro; refine ⟨fun wq hSw => ?_, ?_⟩; ((try dsimp only at hSw); obtain ⟨c1, c2, c3⟩ := hSw; go_simp; try rfl); try simp only [Act.put, List.setIfInBounds_toArray, List.set_cons_zero, List.set_cons_succ])
              (refine gheld_val (i := 11) rfl (by kernel_rfl) (by kernel_rfl) (by kernel_rfl) hHeld (by rfl) ?_; apply Exists.intro; refine ⟨fun wq hSw => ?_, ?_⟩; ((try dsimp only at hSw); obtain ⟨c1, c2, c3⟩ := hSw; go_simp; try rfl); try simp only [Act.put, List.setIfInBounds_toArray, List.set_cons_zero, List.set_cons_succ])
              (refine gheld_val (i := 12) rfl (by kernel_rfl) (by kernel_rfl) (by kernel_rfl) hHeld (by rfl) ?_; apply Exists.intro; refine ⟨fun wq hSw => ?_, ?_⟩; ((try dsimp only at hSw); obtain ⟨c1, c2, c3⟩ := hSw; go_simp; try rfl); try simp only [Act.put, List.setIfInBounds_toArray, List.set_cons_zero, List.set_cons_succ])
              refine wpAnyH_ready (rs := [13]) (by kernel_rfl) (by simp) ?_
              refine AllReadyH.cons (gof_drop rfl) (fun K hK => ?_) AllReadyH.nil
              · go_simp
                obtain ⟨V54, hV⟩ : ∃ V, V53.alloc (.cells #[.slice none 0 0] 24) = V := ⟨_, rfl⟩
                have szq : V54.heap.size = V53.heap.size + 1 := by rw [← hV]; exact World.size_alloc _ _
                have sz : V54.heap.size ≤ V53.heap.size + 1 ∧ V53.heap.size + 1 ≤ V54.heap.size := by omega
                clear szq
                have hb : Below V53.heap.size V53 V54 := hV ▸ one_below _ _
                have gz := lo.size
                have lo := lo.trans (hb.mono lo.size)
                have anew : V54.heap[V53.heap.size]? = some (.cells #[.slice none 0 0] 24 (0, 0)) := hV ▸ World.alloc_heap_new _ _
                have a13 := anew
                have hfin : ∀ y, RdG (V54.setCell ⟨V53.heap.size, 0, none⟩ y) (V54.setCell ⟨V53.heap.size, 0, none⟩ y).heap.size A4 R4 := fun y => rdh.here.keep (by simp [World.setCell]; omega) (fun k hk => (Below.heap_setCell _ _ _ _ (by show k ≠ V53.heap.size; omega)).trans (hb.block k hk))
                clear anew
                rw [hV]
                clear hV
                refine hK.out _ _ (HCell.out _ lo) (fun hHeld => ?_)
                clear hK K
                try simp only [Act.put, List.setIfInBounds_toArray, List.set_cons_zero, List.set_cons_succ]
                refine wpAnyH_ready (rs := [14]) (by kernel_rfl) (by simp) ?_
                refine AllReadyH.cons (gof_drop rfl) (fun K hK => ?_) AllReadyH.nil
                · have kf := frz_at a13 0
                  have kc : V54.cell? ⟨V53.heap.size, 0, none⟩ = some (.slice none 0 0) := (cell_at a13 0).trans rfl
                  go_simp
                  clear kf kc
                  obtain ⟨V55, hV⟩ : ∃ V, V54.setCell ⟨V53.heap.size, 0, none⟩ (.slice A4 N1 c4) = V := ⟨_, rfl⟩
                  have hfin := hfin (.slice A4 N1 c4)
                  have a13 := heap_set_same _ _ 0 (.slice A4 N1 c4) _ _ a13
                  have lo : Below w5.heap.size w5 V55 := hV ▸ lo.setCell (p := ⟨V53.heap.size, 0, none⟩) (by show w5.heap.size ≤ V53.heap.size; omega) _
                  rw [hV] at hfin a13 ⊢
                  clear hV
                  refine hK.out _ _ (HCell.out _ lo) (fun hHeld => ?_)
                  clear hK K
                  try simp only [Act.put, List.setIfInBounds_toArray, List.set_cons_zero, List.set_cons_succ]
                  (refine gheld_val (i := 15) rfl (by kernel_rfl) (by kernel_rfl) (by kernel_rfl) hHeld (by rfl) ?_; apply Exists.intro; refine ⟨fun wq hSw => ?_, ?_⟩; ((try dsimp only at hSw); obtain ⟨c1, c2, c3⟩ := hSw; go_simp; try rfl); try simp only [Act.put, List.setIfInBounds_toArray, List.set_cons_zero, List.set_cons_succ])
                  refine wpAnyH_done (by kernel_rfl) ⟨rfl, ?_⟩ _
                  exact HRest.out V55 V49.heap.size W0.heap.size V53.heap.size _ _ A4 R4 c4 lo a13 q1 hfin
            · have own0 := own
              go_simp
              obtain ⟨V56, hV⟩ : ∃ V, V52.alloc (.cells #[.slice none 0 0] 24) = V := ⟨_, rfl⟩
              have szq : V56.heap.size = V52.heap.size + 1 := by rw [← hV]; exact World.size_alloc _ _
              have sz : V56.heap.size ≤ V52.heap.size + 1 ∧ V52.heap.size + 1 ≤ V56.heap.size := by omega
              clear szq
              have hb : Below V52.heap.size V52 V56 := hV ▸ one_below _ _
              have gz := lo.size
              have lo := lo.trans (hb.mono lo.size)
              have anew : V56.heap[V52.heap.size]? = some (.cells #[.slice none 0 0] 24 (0, 0)) := hV ▸ World.alloc_heap_new _ _
              have own : V56.ownsRow w5.heap.size 36 2 (.slice Ax8 (n + 1) cx8) (n + 1) (acs L ++ [.int .i64 xa, .int .i64 xb]) := hV ▸ own.alloc _
              have a13 := anew
              have ne13 : Value.ownBlock (.slice Ax8 (n + 1) cx8) ≠ some V52.heap.size := fun e => absurd (own_blk_lt own0 e) (Nat.lt_irrefl _)
              clear anew
              rw [hV]
              clear hV
              refine hK.out _ _ (HCell.out _ lo) (fun hHeld => ?_)
              clear hK K
              try simp only [Act.put, List.setIfInBounds_toArray, List.set_cons_zero, List.set_cons_succ]
              refine wpAnyH_ready (rs := [9]) (by kernel_rfl) (by simp) ?_
              refine AllReadyH.cons (gof_drop rfl) (fun K hK => ?_) AllReadyH.nil
              · go_simp
                have hrd : RdV V56 V56.heap.size Ax8 (rcs (rz L ++ [(xa, xb)])) := by have := own_rdvA own; rw [rcs_append]; exact this
                refine (HO.out Ax8 cx8 V56 hrd).mono ?_
                rintro e V57 ⟨A4, R4, c4, rfl, q1, rdh, q3⟩
                have gz := lo.size
                have gq := q3.size
                have lo := lo.trans (q3.mono lo.size)
                have alt := (Array.getElem?_eq_some_iff.1 a13).1
                have a13 := (q3.block _ alt).trans a13
                have hfin : ∀ y, RdG (V57.setCell ⟨V52.heap.size, 0, none⟩ y) (V57.setCell ⟨V52.heap.size, 0, none⟩ y).heap.size A4 R4 := fun y => rdh _ (fun k h1 h2 => Below.heap_setCell _ _ _ _ (by show k ≠ V52.heap.size; omega)) (by simp [World.setCell])
                clear hrd
                refine hK.out _ _ (HCell.out _ lo) (fun hHeld => ?_)
                clear hK K
                try simp only [Act.put, List.setIfInBounds_toArray, List.set_cons_zero, List.set_cons_succ]
                (refine gheld_val (i := 10) rfl (by kernel_rfl) (by kernel_rfl) (by kernel_rfl) hHeld (by rfl) ?_; apply Exists.intro; refine ⟨fun wq hSw => ?_, ?_⟩; ((try dsimp only at hSw); obtain ⟨c1, c2, c3⟩ := hSw; go_simp; try rfl); try simp only [Act.put, List.setIfInBounds_toArray, List.set_cons_zero, List.set_cons_succ])
                (refine gheld_val (i := 11) rfl (by kernel_rfl) (by kernel_rfl) (by kernel_rfl) hHeld (by rfl) ?_; apply Exists.intro; refine ⟨fun wq hSw => ?_, ?_⟩; ((try dsimp only at hSw); obtain ⟨c1, c2, c3⟩ := hSw; go_simp; try rfl); try simp only [Act.put, List.setIfInBounds_toArray, List.set_cons_zero, List.set_cons_succ])
                (refine gheld_val (i := 12) rfl (by kernel_rfl) (by kernel_rfl) (by kernel_rfl) hHeld (by rfl) ?_; apply Exists.intro; refine ⟨fun wq hSw => ?_, ?_⟩; ((try dsimp only at hSw); obtain ⟨c1, c2, c3⟩ := hSw; go_simp; try rfl); try simp only [Act.put, List.setIfInBounds_toArray, List.set_cons_zero, List.set_cons_succ])
                refine wpAnyH_ready (rs := [14]) (by kernel_rfl) (by simp) ?_
                refine AllReadyH.cons (gof_drop rfl) (fun K hK => ?_) AllReadyH.nil
                · have kf := frz_at a13 0
                  have kc : V57.cell? ⟨V52.heap.size, 0, none⟩ = some (.slice none 0 0) := (cell_at a13 0).trans rfl
                  go_simp
                  clear kf kc
                  obtain ⟨V58, hV⟩ : ∃ V, V57.setCell ⟨V52.heap.size, 0, none⟩ (.slice A4 N1 c4) = V := ⟨_, rfl⟩
                  have hfin := hfin (.slice A4 N1 c4)
                  have a13 := heap_set_same _ _ 0 (.slice A4 N1 c4) _ _ a13
                  have lo : Below w5.heap.size w5 V58 := hV ▸ lo.setCell (p := ⟨V52.heap.size, 0, none⟩) (by show w5.heap.size ≤ V52.heap.size; omega) _
                  rw [hV] at hfin a13 ⊢
                  clear hV
                  refine hK.out _ _ (HCell.out _ lo) (fun hHeld => ?_)
                  clear hK K
                  try simp only [Act.put, List.setIfInBounds_toArray, List.set_cons_zero, List.set_cons_succ]
                  (refine gheld_val (i := 15) rfl (by kernel_rfl) (by kernel_rfl) (by kernel_rfl) hHeld (by rfl) ?_; apply Exists.intro; refine ⟨fun wq hSw => ?_, ?_⟩; ((try dsimp only at hSw); obtain ⟨c1, c2, c3⟩ := hSw; go_simp; try rfl); try simp only [Act.put, List.setIfInBounds_toArray, List.set_cons_zero, List.set_cons_succ])
                  refine wpAnyH_done (by kernel_rfl) ⟨rfl, ?_⟩ _
                  exact HRest.out V58 V49.heap.size W0.heap.size V52.heap.size _ _ A4 R4 c4 lo a13 q1 hfin
          · have own0 := own
            go_simp
            obtain ⟨V59, hV⟩ : ∃ V, V51.alloc (.cells #[.slice none 0 0] 24) = V := ⟨_, rfl⟩
            have szq : V59.heap.size = V51.heap.size + 1 := by rw [← hV]; exact World.size_alloc _ _
            have sz : V59.heap.size ≤ V51.heap.size + 1 ∧ V51.heap.size + 1 ≤ V59.heap.size := by omega
            clear szq
            have hb : Below V51.heap.size V51 V59 := hV ▸ one_below _ _
            have gz := lo.size
            have lo := lo.trans (hb.mono lo.size)
            have anew : V59.heap[V51.heap.size]? = some (.cells #[.slice none 0 0] 24 (0, 0)) := hV ▸ World.alloc_heap_new _ _
            have a7 := (hb.block _ (by omega)).trans a7
            have own : V59.ownsRow w5.heap.size 36 2 (.slice Ax5 n cx5) n (acs L) := hV ▸ own.alloc _
            have a13 := anew
            have ne13 : Value.ownBlock (.slice Ax5 n cx5) ≠ some V51.heap.size := fun e => absurd (own_blk_lt own0 e) (Nat.lt_irrefl _)
            clear anew
            rw [hV]
            clear hV
            refine hK.out _ _ (HCell.out _ lo) (fun hHeld => ?_)
            clear hK K
            try simp only [Act.put, List.setIfInBounds_toArray, List.set_cons_zero, List.set_cons_succ]
            refine wpAnyH_ready (rs := [8]) (by kernel_rfl) (by simp) ?_
            refine AllReadyH.cons (gof_drop rfl) (fun K hK => ?_) AllReadyH.nil
            · refine arcs_at (by rfl) (.tmp 61) (.tmp 63) (by rfl) w5.heap.size _ n (acs L) (by rfl) own W0.heap.size 0 1 1 [.int .i64 xa, .int .i64 xb] (by rfl) rfl (fun j u hj => (cell_at a7 _).trans (by rw [Nat.zero_add]; simpa using hj)) (by simp [Value.oneCell']) (by omega) lo.size ?_
              intro v8 V60 own2 gr h4
              have lo2 := lo.trans (grown_low gr own lo.size)
              have gsz := gr.size
              have a13 := (gr.block _ (Array.getElem?_eq_some_iff.1 a13).1 (fun e => ne13 e.symm)).trans a13
              have ne13 : v8.ownBlock ≠ some V51.heap.size := fun e => by rcases h4 with q | q; exact ne13 (q.symm.trans e); have : V59.heap.size = V51.heap.size := Option.some.inj (q.symm.trans e); omega
              have own := own2
              have lo := lo2
              clear own2 lo2 gr h4
              obtain ⟨Ax8, cx8, rfl⟩ := own_sliceT own
              refine hK.out _ _ (HCell.out _ lo) (fun hHeld => ?_)
              clear hK K
              try simp only [Act.put, List.setIfInBounds_toArray, List.set_cons_zero, List.set_cons_succ]
              refine wpAnyH_ready (rs := [9]) (by kernel_rfl) (by simp) ?_
              refine AllReadyH.cons (gof_drop rfl) (fun K hK => ?_) AllReadyH.nil
              · go_simp
                have hrd : RdV V60 V60.heap.size Ax8 (rcs (rz L ++ [(xa, xb)])) := by have := own_rdvA own; rw [rcs_append]; exact this
                refine (HO.out Ax8 cx8 V60 hrd).mono ?_
                rintro e V61 ⟨A4, R4, c4, rfl, q1, rdh, q3⟩
                have gz := lo.size
                have gq := q3.size
                have lo := lo.trans (q3.mono lo.size)
                have alt := (Array.getElem?_eq_some_iff.1 a13).1
                have a13 := (q3.block _ alt).trans a13
                have hfin : ∀ y, RdG (V61.setCell ⟨V51.heap.size, 0, none⟩ y) (V61.setCell ⟨V51.heap.size, 0, none⟩ y).heap.size A4 R4 := fun y => rdh _ (fun k h1 h2 => Below.heap_setCell _ _ _ _ (by show k ≠ V51.heap.size; omega)) (by simp [World.setCell])
                clear hrd
                refine hK.out _ _ (HCell.out _ lo) (fun hHeld => ?_)
                clear hK K
                try simp only [Act.put, List.setIfInBounds_toArray, List.set_cons_zero, List.set_cons_succ]
                (refine gheld_val (i := 10) rfl (by kernel_rfl) (by kernel_rfl) (by kernel_rfl) hHeld (by rfl) ?_; apply Exists.intro; refine ⟨fun wq hSw => ?_, ?_⟩; ((try dsimp only at hSw); obtain ⟨c1, c2, c3⟩ := hSw; go_simp; try rfl); try simp only [Act.put, List.setIfInBounds_toArray, List.set_cons_zero, List.set_cons_succ])
                (refine gheld_val (i := 11) rfl (by kernel_rfl) (by kernel_rfl) (by kernel_rfl) hHeld (by rfl) ?_; apply Exists.intro; refine ⟨fun wq hSw => ?_, ?_⟩; ((try dsimp only at hSw); obtain ⟨c1, c2, c3⟩ := hSw; go_simp; try rfl); try simp only [Act.put, List.setIfInBounds_toArray, List.set_cons_zero, List.set_cons_succ])
                (refine gheld_val (i := 12) rfl (by kernel_rfl) (by kernel_rfl) (by kernel_rfl) hHeld (by rfl) ?_; apply Exists.intro; refine ⟨fun wq hSw => ?_, ?_⟩; ((try dsimp only at hSw); obtain ⟨c1, c2, c3⟩ := hSw; go_simp; try rfl); try simp only [Act.put, List.setIfInBounds_toArray, List.set_cons_zero, List.set_cons_succ])
                refine wpAnyH_ready (rs := [14]) (by kernel_rfl) (by simp) ?_
                refine AllReadyH.cons (gof_drop rfl) (fun K hK => ?_) AllReadyH.nil
                · have kf := frz_at a13 0
                  have kc : V61.cell? ⟨V51.heap.size, 0, none⟩ = some (.slice none 0 0) := (cell_at a13 0).trans rfl
                  go_simp
                  clear kf kc
                  obtain ⟨V62, hV⟩ : ∃ V, V61.setCell ⟨V51.heap.size, 0, none⟩ (.slice A4 N1 c4) = V := ⟨_, rfl⟩
                  have hfin := hfin (.slice A4 N1 c4)
                  have a13 := heap_set_same _ _ 0 (.slice A4 N1 c4) _ _ a13
                  have lo : Below w5.heap.size w5 V62 := hV ▸ lo.setCell (p := ⟨V51.heap.size, 0, none⟩) (by show w5.heap.size ≤ V51.heap.size; omega) _
                  rw [hV] at hfin a13 ⊢
                  clear hV
                  refine hK.out _ _ (HCell.out _ lo) (fun hHeld => ?_)
                  clear hK K
                  try simp only [Act.put, List.setIfInBounds_toArray, List.set_cons_zero, List.set_cons_succ]
                  (refine gheld_val (i := 15) rfl (by kernel_rfl) (by kernel_rfl) (by kernel_rfl) hHeld (by rfl) ?_; apply Exists.intro; refine ⟨fun wq hSw => ?_, ?_⟩; ((try dsimp only at hSw); obtain ⟨c1, c2, c3⟩ := hSw; go_simp; try rfl); try simp only [Act.put, List.setIfInBounds_toArray, List.set_cons_zero, List.set_cons_succ])
                  refine wpAnyH_done (by kernel_rfl) ⟨rfl, ?_⟩ _
                  exact HRest.out V62 V49.heap.size W0.heap.size V51.heap.size _ _ A4 R4 c4 lo a13 q1 hfin
        · have own0 := own
          go_simp
          obtain ⟨V63, hV⟩ : ∃ V, V50.alloc (.cells #[.slice none 0 0] 24) = V := ⟨_, rfl⟩
          have szq : V63.heap.size = V50.heap.size + 1 := by rw [← hV]; exact World.size_alloc _ _
          have sz : V63.heap.size ≤ V50.heap.size + 1 ∧ V50.heap.size + 1 ≤ V63.heap.size := by omega
          clear szq
          have hb : Below V50.heap.size V50 V63 := hV ▸ one_below _ _
          have gz := lo.size
          have lo := lo.trans (hb.mono lo.size)
          have anew : V63.heap[V50.heap.size]? = some (.cells #[.slice none 0 0] 24 (0, 0)) := hV ▸ World.alloc_heap_new _ _
          have a7 := (hb.block _ (by omega)).trans a7
          have own : V63.ownsRow w5.heap.size 36 2 (.slice (some ⟨V49.heap.size, 0, none⟩) 0 0) 0 [] := hV ▸ own.alloc _
          have a13 := anew
          have ne13 : Value.ownBlock (.slice (some ⟨V49.heap.size, 0, none⟩) 0 0) ≠ some V50.heap.size := fun e => absurd (own_blk_lt own0 e) (Nat.lt_irrefl _)
          clear anew
          rw [hV]
          clear hV
          refine hK.out _ _ (HCell.out _ lo) (fun hHeld => ?_)
          clear hK K
          try simp only [Act.put, List.setIfInBounds_toArray, List.set_cons_zero, List.set_cons_succ]
          refine wpAnyH_ready (rs := [5]) (by kernel_rfl) (by simp) ?_
          refine AllReadyH.cons (gof_drop rfl) (fun K hK => ?_) AllReadyH.nil
          · refine arcs_atN (by rfl) (.tmp 59) (.tmp 60) (by rfl) w5.heap.size _ 0 [] (by rfl) own A1 n c1 (acs L) (by rfl) hcp.2 hcp.1 hacl (HArc.out _ lo) (acs_one _) (by omega) lo.size ?_
            intro v5 V64 own2 gr h4
            have lo2 := lo.trans (grown_low gr own lo.size)
            have gsz := gr.size
            have a7 := (gr.block _ (Array.getElem?_eq_some_iff.1 a7).1 (fun e => ne7 e.symm)).trans a7
            have ne7 : v5.ownBlock ≠ some W0.heap.size := fun e => by rcases h4 with q | q; exact ne7 (q.symm.trans e); have : V63.heap.size = W0.heap.size := Option.some.inj (q.symm.trans e); omega
            have a13 := (gr.block _ (Array.getElem?_eq_some_iff.1 a13).1 (fun e => ne13 e.symm)).trans a13
            have ne13 : v5.ownBlock ≠ some V50.heap.size := fun e => by rcases h4 with q | q; exact ne13 (q.symm.trans e); have : V63.heap.size = V50.heap.size := Option.some.inj (q.symm.trans e); omega
            have own := own2
            have lo := lo2
            clear own2 lo2 gr h4
            rw [Nat.zero_add, List.nil_append] at own
            obtain ⟨Ax5, cx5, rfl⟩ := own_sliceT own
            refine hK.out _ _ (HCell.out _ lo) (fun hHeld => ?_)
            clear hK K
            try simp only [Act.put, List.setIfInBounds_toArray, List.set_cons_zero, List.set_cons_succ]
            refine wpAnyH_ready (rs := [8]) (by kernel_rfl) (by simp) ?_
            refine AllReadyH.cons (gof_drop rfl) (fun K hK => ?_) AllReadyH.nil
            · refine arcs_at (by rfl) (.tmp 61) (.tmp 63) (by rfl) w5.heap.size _ n (acs L) (by rfl) own W0.heap.size 0 1 1 [.int .i64 xa, .int .i64 xb] (by rfl) rfl (fun j u hj => (cell_at a7 _).trans (by rw [Nat.zero_add]; simpa using hj)) (by simp [Value.oneCell']) (by omega) lo.size ?_
              intro v8 V65 own2 gr h4
              have lo2 := lo.trans (grown_low gr own lo.size)
              have gsz := gr.size
              have a13 := (gr.block _ (Array.getElem?_eq_some_iff.1 a13).1 (fun e => ne13 e.symm)).trans a13
              have ne13 : v8.ownBlock ≠ some V50.heap.size := fun e => by rcases h4 with q | q; exact ne13 (q.symm.trans e); have : V64.heap.size = V50.heap.size := Option.some.inj (q.symm.trans e); omega
              have own := own2
              have lo := lo2
              clear own2 lo2 gr h4
              obtain ⟨Ax8, cx8, rfl⟩ := own_sliceT own
              refine hK.out _ _ (HCell.out _ lo) (fun hHeld => ?_)
              clear hK K
              try simp only [Act.put, List.setIfInBounds_toArray, List.set_cons_zero, List.set_cons_succ]
              refine wpAnyH_ready (rs := [9]) (by kernel_rfl) (by simp) ?_
              refine AllReadyH.cons (gof_drop rfl) (fun K hK => ?_) AllReadyH.nil
              · go_simp
                have hrd : RdV V65 V65.heap.size Ax8 (rcs (rz L ++ [(xa, xb)])) := by have := own_rdvA own; rw [rcs_append]; exact this
                refine (HO.out Ax8 cx8 V65 hrd).mono ?_
                rintro e V66 ⟨A4, R4, c4, rfl, q1, rdh, q3⟩
                have gz := lo.size
                have gq := q3.size
                have lo := lo.trans (q3.mono lo.size)
                have alt := (Array.getElem?_eq_some_iff.1 a13).1
                have a13 := (q3.block _ alt).trans a13
                have hfin : ∀ y, RdG (V66.setCell ⟨V50.heap.size, 0, none⟩ y) (V66.setCell ⟨V50.heap.size, 0, none⟩ y).heap.size A4 R4 := fun y => rdh _ (fun k h1 h2 => Below.heap_setCell _ _ _ _ (by show k ≠ V50.heap.size; omega)) (by simp [World.setCell])
                clear hrd
                refine hK.out _ _ (HCell.out _ lo) (fun hHeld => ?_)
                clear hK K
                try simp only [Act.put, List.setIfInBounds_toArray, List.set_cons_zero, List.set_cons_succ]
                (refine gheld_val (i := 10) rfl (by kernel_rfl) (by kernel_rfl) (by kernel_rfl) hHeld (by rfl) ?_; apply Exists.intro; refine ⟨fun wq hSw => ?_, ?_⟩; ((try dsimp only at hSw); obtain ⟨c1, c2, c3⟩ := hSw; go_simp; try rfl); try simp only [Act.put, List.setIfInBounds_toArray, List.set_cons_zero, List.set_cons_succ])
                (refine gheld_val (i := 11) rfl (by kernel_rfl) (by kernel_rfl) (by kernel_rfl) hHeld (by rfl) ?_; apply Exists.intro; refine ⟨fun wq hSw => ?_, ?_⟩; ((try dsimp only at hSw); obtain ⟨c1, c2, c3⟩ := hSw; go_simp; try rfl); try simp only [Act.put, List.setIfInBounds_toArray, List.set_cons_zero, List.set_cons_succ])
                (refine gheld_val (i := 12) rfl (by kernel_rfl) (by kernel_rfl) (by kernel_rfl) hHeld (by rfl) ?_; apply Exists.intro; refine ⟨fun wq hSw => ?_, ?_⟩; ((try dsimp only at hSw); obtain ⟨c1, c2, c3⟩ := hSw; go_simp; try rfl); try simp only [Act.put, List.setIfInBounds_toArray, List.set_cons_zero, List.set_cons_succ])
                refine wpAnyH_ready (rs := [14]) (by kernel_rfl) (by simp) ?_
                refine AllReadyH.cons (gof_drop rfl) (fun K hK => ?_) AllReadyH.nil
                · have kf := frz_at a13 0
                  have kc : V66.cell? ⟨V50.heap.size, 0, none⟩ = some (.slice none 0 0) := (cell_at a13 0).trans rfl
                  go_simp
                  clear kf kc
                  obtain ⟨V67, hV⟩ : ∃ V, V66.setCell ⟨V50.heap.size, 0, none⟩ (.slice A4 N1 c4) = V := ⟨_, rfl⟩
                  have hfin := hfin (.slice A4 N1 c4)
                  have a13 := heap_set_same _ _ 0 (.slice A4 N1 c4) _ _ a13
                  have lo : Below w5.heap.size w5 V67 := hV ▸ lo.setCell (p := ⟨V50.heap.size, 0, none⟩) (by show w5.heap.size ≤ V50.heap.size; omega) _
                  rw [hV] at hfin a13 ⊢
                  clear hV
                  refine hK.out _ _ (HCell.out _ lo) (fun hHeld => ?_)
                  clear hK K
                  try simp only [Act.put, List.setIfInBounds_toArray, List.set_cons_zero, List.set_cons_succ]
                  (refine gheld_val (i := 15) rfl (by kernel_rfl) (by kernel_rfl) (by kernel_rfl) hHeld (by rfl) ?_; apply Exists.intro; refine ⟨fun wq hSw => ?_, ?_⟩; ((try dsimp only at hSw); obtain ⟨c1, c2, c3⟩ := hSw; go_simp; try rfl); try simp only [Act.put, List.setIfInBounds_toArray, List.set_cons_zero, List.set_cons_succ])
                  refine wpAnyH_done (by kernel_rfl) ⟨rfl, ?_⟩ _
                  exact HRest.out V67 V49.heap.size W0.heap.size V50.heap.size _ _ A4 R4 c4 lo a13 q1 hfin
      · go_simp
        obtain ⟨V68, hV⟩ : ∃ V, V49.alloc (.cells #[.slice none 0 0] 24) = V := ⟨_, rfl⟩
        have szq : V68.heap.size = V49.heap.size + 1 := by rw [← hV]; exact World.size_alloc _ _
        have sz : V68.heap.size ≤ V49.heap.size + 1 ∧ V49.heap.size + 1 ≤ V68.heap.size := by omega
        clear szq
        have hb : Below V49.heap.size V49 V68 := hV ▸ one_below _ _
        have gz := lo.size
        have lo := lo.trans (hb.mono lo.size)
        have anew : V68.heap[V49.heap.size]? = some (.cells #[.slice none 0 0] 24 (0, 0)) := hV ▸ World.alloc_heap_new _ _
        have a7 := (hb.block _ (by omega)).trans a7
        have a13 := anew
        clear anew
        rw [hV]
        clear hV
        refine hK.out _ _ (HCell.out _ lo) (fun hHeld => ?_)
        clear hK K
        try simp only [Act.put, List.setIfInBounds_toArray, List.set_cons_zero, List.set_cons_succ]
        refine wpAnyH_ready (rs := [3]) (by kernel_rfl) (by simp) ?_
        refine AllReadyH.cons (gof_drop rfl) (fun K hK => ?_) AllReadyH.nil
        · go_simp
          obtain ⟨V69, hV⟩ : ∃ V, V68.alloc (.cells #[] 36) = V := ⟨_, rfl⟩
          have szq : V69.heap.size = V68.heap.size + 1 := by rw [← hV]; exact World.size_alloc _ _
          have sz : V69.heap.size ≤ V68.heap.size + 1 ∧ V68.heap.size + 1 ≤ V69.heap.size := by omega
          clear szq
          have hb : Below V68.heap.size V68 V69 := hV ▸ one_below _ _
          have gz := lo.size
          have lo := lo.trans (hb.mono lo.size)
          have anew : V69.heap[V68.heap.size]? = some (.cells #[] 36 (0, 0)) := hV ▸ World.alloc_heap_new _ _
          have a7 := (hb.block _ (by omega)).trans a7
          have a13 := (hb.block _ (by omega)).trans a13
          have own : V69.ownsRow w5.heap.size 36 2 (.slice (some ⟨V68.heap.size, 0, none⟩) 0 0) 0 [] := ⟨rfl, .inr ⟨V68.heap.size, 0, #[], rfl, by omega, anew, by omega, by decide, rfl, rfl⟩⟩
          have ne7 : (Value.slice (some ⟨V68.heap.size, 0, none⟩) 0 0).ownBlock ≠ some W0.heap.size := fun e => by have : V68.heap.size = W0.heap.size := Option.some.inj e; omega
          have ne13 : (Value.slice (some ⟨V68.heap.size, 0, none⟩) 0 0).ownBlock ≠ some V49.heap.size := fun e => by have : V68.heap.size = V49.heap.size := Option.some.inj e; omega
          clear anew
          rw [hV]
          clear hV
          refine hK.out _ _ (HCell.out _ lo) (fun hHeld => ?_)
          clear hK K
          try simp only [Act.put, List.setIfInBounds_toArray, List.set_cons_zero, List.set_cons_succ]
          refine wpAnyH_ready (rs := [5]) (by kernel_rfl) (by simp) ?_
          refine AllReadyH.cons (gof_drop rfl) (fun K hK => ?_) AllReadyH.nil
          · refine arcs_atN (by rfl) (.tmp 59) (.tmp 60) (by rfl) w5.heap.size _ 0 [] (by rfl) own A1 n c1 (acs L) (by rfl) hcp.2 hcp.1 hacl (HArc.out _ lo) (acs_one _) (by omega) lo.size ?_
            intro v5 V70 own2 gr h4
            have lo2 := lo.trans (grown_low gr own lo.size)
            have gsz := gr.size
            have a7 := (gr.block _ (Array.getElem?_eq_some_iff.1 a7).1 (fun e => ne7 e.symm)).trans a7
            have ne7 : v5.ownBlock ≠ some W0.heap.size := fun e => by rcases h4 with q | q; exact ne7 (q.symm.trans e); have : V69.heap.size = W0.heap.size := Option.some.inj (q.symm.trans e); omega
            have a13 := (gr.block _ (Array.getElem?_eq_some_iff.1 a13).1 (fun e => ne13 e.symm)).trans a13
            have ne13 : v5.ownBlock ≠ some V49.heap.size := fun e => by rcases h4 with q | q; exact ne13 (q.symm.trans e); have : V69.heap.size = V49.heap.size := Option.some.inj (q.symm.trans e); omega
            have own := own2
            have lo := lo2
            clear own2 lo2 gr h4
            rw [Nat.zero_add, List.nil_append] at own
            obtain ⟨Ax5, cx5, rfl⟩ := own_sliceT own
            refine hK.out _ _ (HCell.out _ lo) (fun hHeld => ?_)
            clear hK K
            try simp only [Act.put, List.setIfInBounds_toArray, List.set_cons_zero, List.set_cons_succ]
            refine wpAnyH_ready (rs := [8]) (by kernel_rfl) (by simp) ?_
            refine AllReadyH.cons (gof_drop rfl) (fun K hK => ?_) AllReadyH.nil
            · refine arcs_at (by rfl) (.tmp 61) (.tmp 63) (by rfl) w5.heap.size _ n (acs L) (by rfl) own W0.heap.size 0 1 1 [.int .i64 xa, .int .i64 xb] (by rfl) rfl (fun j u hj => (cell_at a7 _).trans (by rw [Nat.zero_add]; simpa using hj)) (by simp [Value.oneCell']) (by omega) lo.size ?_
              intro v8 V71 own2 gr h4
              have lo2 := lo.trans (grown_low gr own lo.size)
              have gsz := gr.size
              have a13 := (gr.block _ (Array.getElem?_eq_some_iff.1 a13).1 (fun e => ne13 e.symm)).trans a13
              have ne13 : v8.ownBlock ≠ some V49.heap.size := fun e => by rcases h4 with q | q; exact ne13 (q.symm.trans e); have : V70.heap.size = V49.heap.size := Option.some.inj (q.symm.trans e); omega
              have own := own2
              have lo := lo2
              clear own2 lo2 gr h4
              obtain ⟨Ax8, cx8, rfl⟩ := own_sliceT own
              refine hK.out _ _ (HCell.out _ lo) (fun hHeld => ?_)
              clear hK K
              try simp only [Act.put, List.setIfInBounds_toArray, List.set_cons_zero, List.set_cons_succ]
              refine wpAnyH_ready (rs := [9]) (by kernel_rfl) (by simp) ?_
              refine AllReadyH.cons (gof_drop rfl) (fun K hK => ?_) AllReadyH.nil
              · go_simp
                have hrd : RdV V71 V71.heap.size Ax8 (rcs (rz L ++ [(xa, xb)])) := by have := own_rdvA own; rw [rcs_append]; exact this
                refine (HO.out Ax8 cx8 V71 hrd).mono ?_
                rintro e V72 ⟨A4, R4, c4, rfl, q1, rdh, q3⟩
                have gz := lo.size
                have gq := q3.size
                have lo := lo.trans (q3.mono lo.size)
                have alt := (Array.getElem?_eq_some_iff.1 a13).1
                have a13 := (q3.block _ alt).trans a13
                have hfin : ∀ y, RdG (V72.setCell ⟨V49.heap.size, 0, none⟩ y) (V72.setCell ⟨V49.heap.size, 0, none⟩ y).heap.size A4 R4 := fun y => rdh _ (fun k h1 h2 => Below.heap_setCell _ _ _ _ (by show k ≠ V49.heap.size; omega)) (by simp [World.setCell])
                clear hrd
                refine hK.out _ _ (HCell.out _ lo) (fun hHeld => ?_)
                clear hK K
                try simp only [Act.put, List.setIfInBounds_toArray, List.set_cons_zero, List.set_cons_succ]
                (refine gheld_val (i := 10) rfl (by kernel_rfl) (by kernel_rfl) (by kernel_rfl) hHeld (by rfl) ?_; apply Exists.intro; refine ⟨fun wq hSw => ?_, ?_⟩; ((try dsimp only at hSw); obtain ⟨c1, c2, c3⟩ := hSw; go_simp; try rfl); try simp only [Act.put, List.setIfInBounds_toArray, List.set_cons_zero, List.set_cons_succ])
                (refine gheld_val (i := 11) rfl (by kernel_rfl) (by kernel_rfl) (by kernel_rfl) hHeld (by rfl) ?_; apply Exists.intro; refine ⟨fun wq hSw => ?_, ?_⟩; ((try dsimp only at hSw); obtain ⟨c1, c2, c3⟩ := hSw; go_simp; try rfl); try simp only [Act.put, List.setIfInBounds_toArray, List.set_cons_zero, List.set_cons_succ])
                (refine gheld_val (i := 12) rfl (by kernel_rfl) (by kernel_rfl) (by kernel_rfl) hHeld (by rfl) ?_; apply Exists.intro; refine ⟨fun wq hSw => ?_, ?_⟩; ((try dsimp only at hSw); obtain ⟨c1, c2, c3⟩ := hSw; go_simp; try rfl); try simp only [Act.put, List.setIfInBounds_toArray, List.set_cons_zero, List.set_cons_succ])
                refine wpAnyH_ready (rs := [14]) (by kernel_rfl) (by simp) ?_
                refine AllReadyH.cons (gof_drop rfl) (fun K hK => ?_) AllReadyH.nil
                · have kf := frz_at a13 0
                  have kc : V72.cell? ⟨V49.heap.size, 0, none⟩ = some (.slice none 0 0) := (cell_at a13 0).trans rfl
                  go_simp
                  clear kf kc
                  obtain ⟨V73, hV⟩ : ∃ V, V72.setCell ⟨V49.heap.size, 0, none⟩ (.slice A4 N1 c4) = V := ⟨_, rfl⟩
                  have hfin := hfin (.slice A4 N1 c4)
                  have a13 := heap_set_same _ _ 0 (.slice A4 N1 c4) _ _ a13
                  have lo : Below w5.heap.size w5 V73 := hV ▸ lo.setCell (p := ⟨V49.heap.size, 0, none⟩) (by show w5.heap.size ≤ V49.heap.size; omega) _
                  rw [hV] at hfin a13 ⊢
                  clear hV
                  refine hK.out _ _ (HCell.out _ lo) (fun hHeld => ?_)
                  clear hK K
                  try simp only [Act.put, List.setIfInBounds_toArray, List.set_cons_zero, List.set_cons_succ]
                  (refine gheld_val (i := 15) rfl (by kernel_rfl) (by kernel_rfl) (by kernel_rfl) hHeld (by rfl) ?_; apply Exists.intro; refine ⟨fun wq hSw => ?_, ?_⟩; ((try dsimp only at hSw); obtain ⟨c1, c2, c3⟩ := hSw; go_simp; try rfl); try simp only [Act.put, List.setIfInBounds_toArray, List.set_cons_zero, List.set_cons_succ])
                  refine wpAnyH_done (by kernel_rfl) ⟨rfl, ?_⟩ _
                  exact HRest.out V73 V68.heap.size W0.heap.size V49.heap.size _ _ A4 R4 c4 lo a13 q1 hfin
    · go_simp
      obtain ⟨V74, hV⟩ : ∃ V, W0.alloc (.cells #[.slice none 0 0] 24) = V := ⟨_, rfl⟩
      have szq : V74.heap.size = W0.heap.size + 1 := by rw [← hV]; exact World.size_alloc _ _
      have sz : V74.heap.size ≤ W0.heap.size + 1 ∧ W0.heap.size + 1 ≤ V74.heap.size := by omega
      clear szq
      have hb : Below W0.heap.size W0 V74 := hV ▸ one_below _ _
      have gz := lo.size
      have lo := lo.trans (hb.mono lo.size)
      have anew : V74.heap[W0.heap.size]? = some (.cells #[.slice none 0 0] 24 (0, 0)) := hV ▸ World.alloc_heap_new _ _
      have a13 := anew
      clear anew
      rw [hV]
      clear hV
      refine hK.out _ _ (HCell.out _ lo) (fun hHeld => ?_)
      clear hK K
      try simp only [Act.put, List.setIfInBounds_toArray, List.set_cons_zero, List.set_cons_succ]
      refine wpAnyH_ready (rs := [3, 7]) (by kernel_rfl) (by simp) ?_
      refine AllReadyH.cons (gof_drop rfl) (fun K hK => ?_) (AllReadyH.cons (gof_drop rfl) (fun K hK => ?_) AllReadyH.nil)
      · go_simp
        obtain ⟨V75, hV⟩ : ∃ V, V74.alloc (.cells #[] 36) = V := ⟨_, rfl⟩
        have szq : V75.heap.size = V74.heap.size + 1 := by rw [← hV]; exact World.size_alloc _ _
        have sz : V75.heap.size ≤ V74.heap.size + 1 ∧ V74.heap.size + 1 ≤ V75.heap.size := by omega
        clear szq
        have hb : Below V74.heap.size V74 V75 := hV ▸ one_below _ _
        have gz := lo.size
        have lo := lo.trans (hb.mono lo.size)
        have anew : V75.heap[V74.heap.size]? = some (.cells #[] 36 (0, 0)) := hV ▸ World.alloc_heap_new _ _
        have a13 := (hb.block _ (by omega)).trans a13
        have own : V75.ownsRow w5.heap.size 36 2 (.slice (some ⟨V74.heap.size, 0, none⟩) 0 0) 0 [] := ⟨rfl, .inr ⟨V74.heap.size, 0, #[], rfl, by omega, anew, by omega, by decide, rfl, rfl⟩⟩
        have ne13 : (Value.slice (some ⟨V74.heap.size, 0, none⟩) 0 0).ownBlock ≠ some W0.heap.size := fun e => by have : V74.heap.size = W0.heap.size := Option.some.inj e; omega
        clear anew
        rw [hV]
        clear hV
        refine hK.out _ _ (HCell.out _ lo) (fun hHeld => ?_)
        clear hK K
        try simp only [Act.put, List.setIfInBounds_toArray, List.set_cons_zero, List.set_cons_succ]
        refine wpAnyH_ready (rs := [5, 7]) (by kernel_rfl) (by simp) ?_
        refine AllReadyH.cons (gof_drop rfl) (fun K hK => ?_) (AllReadyH.cons (gof_drop rfl) (fun K hK => ?_) AllReadyH.nil)
        · refine arcs_atN (by rfl) (.tmp 59) (.tmp 60) (by rfl) w5.heap.size _ 0 [] (by rfl) own A1 n c1 (acs L) (by rfl) hcp.2 hcp.1 hacl (HArc.out _ lo) (acs_one _) (by omega) lo.size ?_
          intro v5 V76 own2 gr h4
          have lo2 := lo.trans (grown_low gr own lo.size)
          have gsz := gr.size
          have a13 := (gr.block _ (Array.getElem?_eq_some_iff.1 a13).1 (fun e => ne13 e.symm)).trans a13
          have ne13 : v5.ownBlock ≠ some W0.heap.size := fun e => by rcases h4 with q | q; exact ne13 (q.symm.trans e); have : V75.heap.size = W0.heap.size := Option.some.inj (q.symm.trans e); omega
          have own := own2
          have lo := lo2
          clear own2 lo2 gr h4
          rw [Nat.zero_add, List.nil_append] at own
          obtain ⟨Ax5, cx5, rfl⟩ := own_sliceT own
          refine hK.out _ _ (HCell.out _ lo) (fun hHeld => ?_)
          clear hK K
          try simp only [Act.put, List.setIfInBounds_toArray, List.set_cons_zero, List.set_cons_succ]
          refine wpAnyH_ready (rs := [7]) (by kernel_rfl) (by simp) ?_
          refine AllReadyH.cons (gof_drop rfl) (fun K hK => ?_) AllReadyH.nil
          · have own0 := own
            go_simp
            obtain ⟨V77, hV⟩ : ∃ V, V76.alloc (.cells #[.int .i64 xa, .int .i64 xb] 36) = V := ⟨_, rfl⟩
            have szq : V77.heap.size = V76.heap.size + 1 := by rw [← hV]; exact World.size_alloc _ _
            have sz : V77.heap.size ≤ V76.heap.size + 1 ∧ V76.heap.size + 1 ≤ V77.heap.size := by omega
            clear szq
            have hb : Below V76.heap.size V76 V77 := hV ▸ one_below _ _
            have gz := lo.size
            have lo := lo.trans (hb.mono lo.size)
            have anew : V77.heap[V76.heap.size]? = some (.cells #[.int .i64 xa, .int .i64 xb] 36 (0, 0)) := hV ▸ World.alloc_heap_new _ _
            have a13 := (hb.block _ (by omega)).trans a13
            have own : V77.ownsRow w5.heap.size 36 2 (.slice Ax5 n cx5) n (acs L) := hV ▸ own.alloc _
            have a7 := anew
            have ne7 : Value.ownBlock (.slice Ax5 n cx5) ≠ some V76.heap.size := fun e => absurd (own_blk_lt own0 e) (Nat.lt_irrefl _)
            clear anew
            rw [hV]
            clear hV
            refine hK.out _ _ (HCell.out _ lo) (fun hHeld => ?_)
            clear hK K
            try simp only [Act.put, List.setIfInBounds_toArray, List.set_cons_zero, List.set_cons_succ]
            refine wpAnyH_ready (rs := [8]) (by kernel_rfl) (by simp) ?_
            refine AllReadyH.cons (gof_drop rfl) (fun K hK => ?_) AllReadyH.nil
            · refine arcs_at (by rfl) (.tmp 61) (.tmp 63) (by rfl) w5.heap.size _ n (acs L) (by rfl) own V76.heap.size 0 1 1 [.int .i64 xa, .int .i64 xb] (by rfl) rfl (fun j u hj => (cell_at a7 _).trans (by rw [Nat.zero_add]; simpa using hj)) (by simp [Value.oneCell']) (by omega) lo.size ?_
              intro v8 V78 own2 gr h4
              have lo2 := lo.trans (grown_low gr own lo.size)
              have gsz := gr.size
              have a13 := (gr.block _ (Array.getElem?_eq_some_iff.1 a13).1 (fun e => ne13 e.symm)).trans a13
              have ne13 : v8.ownBlock ≠ some W0.heap.size := fun e => by rcases h4 with q | q; exact ne13 (q.symm.trans e); have : V77.heap.size = W0.heap.size := Option.some.inj (q.symm.trans e); omega
              have own := own2
              have lo := lo2
              clear own2 lo2 gr h4
              obtain ⟨Ax8, cx8, rfl⟩ := own_sliceT own
              refine hK.out _ _ (HCell.out _ lo) (fun hHeld => ?_)
              clear hK K
              try simp only [Act.put, List.setIfInBounds_toArray, List.set_cons_zero, List.set_cons_succ]
              refine wpAnyH_ready (rs := [9]) (by kernel_rfl) (by simp) ?_
              refine AllReadyH.cons (gof_drop rfl) (fun K hK => ?_) AllReadyH.nil
              · go_simp
                have hrd : RdV V78 V78.heap.size Ax8 (rcs (rz L ++ [(xa, xb)])) := by have := own_rdvA own; rw [rcs_append]; exact this
                refine (HO.out Ax8 cx8 V78 hrd).mono ?_
                rintro e V79 ⟨A4, R4, c4, rfl, q1, rdh, q3⟩
                have gz := lo.size
                have gq := q3.size
                have lo := lo.trans (q3.mono lo.size)
                have alt := (Array.getElem?_eq_some_iff.1 a13).1
                have a13 := (q3.block _ alt).trans a13
                have hfin : ∀ y, RdG (V79.setCell ⟨W0.heap.size, 0, none⟩ y) (V79.setCell ⟨W0.heap.size, 0, none⟩ y).heap.size A4 R4 := fun y => rdh _ (fun k h1 h2 => Below.heap_setCell _ _ _ _ (by show k ≠ W0.heap.size; omega)) (by simp [World.setCell])
                clear hrd
                refine hK.out _ _ (HCell.out _ lo) (fun hHeld => ?_)
                clear hK K
                try simp only [Act.put, List.setIfInBounds_toArray, List.set_cons_zero, List.set_cons_succ]
                (refine gheld_val (i := 10) rfl (by kernel_rfl) (by kernel_rfl) (by kernel_rfl) hHeld (by rfl) ?_; apply Exists.intro; refine ⟨fun wq hSw => ?_, ?_⟩; ((try dsimp only at hSw); obtain ⟨c1, c2, c3⟩ := hSw; go_simp; try rfl); try simp only [Act.put, List.setIfInBounds_toArray, List.set_cons_zero, List.set_cons_succ])
                (refine gheld_val (i := 11) rfl (by kernel_rfl) (by kernel_rfl) (by kernel_rfl) hHeld (by rfl) ?_; apply Exists.intro; refine ⟨fun wq hSw => ?_, ?_⟩; ((try dsimp only at hSw); obtain ⟨c1, c2, c3⟩ := hSw; go_simp; try rfl); try simp only [Act.put, List.setIfInBounds_toArray, List.set_cons_zero, List.set_cons_succ])
                (refine gheld_val (i := 12) rfl (by kernel_rfl) (by kernel_rfl) (by kernel_rfl) hHeld (by rfl) ?_; apply Exists.intro; refine ⟨fun wq hSw => ?_, ?_⟩; ((try dsimp only at hSw); obtain ⟨c1, c2, c3⟩ := hSw; go_simp; try rfl); try simp only [Act.put, List.setIfInBounds_toArray, List.set_cons_zero, List.set_cons_succ])
                refine wpAnyH_ready (rs := [14]) (by kernel_rfl) (by simp) ?_
                refine AllReadyH.cons (gof_drop rfl) (fun K hK => ?_) AllReadyH.nil
                · have kf := frz_at a13 0
                  have kc : V79.cell? ⟨W0.heap.size, 0, none⟩ = some (.slice none 0 0) := (cell_at a13 0).trans rfl
                  go_simp
                  clear kf kc
                  obtain ⟨V80, hV⟩ : ∃ V, V79.setCell ⟨W0.heap.size, 0, none⟩ (.slice A4 N1 c4) = V := ⟨_, rfl⟩
                  have hfin := hfin (.slice A4 N1 c4)
                  have a13 := heap_set_same _ _ 0 (.slice A4 N1 c4) _ _ a13
                  have lo : Below w5.heap.size w5 V80 := hV ▸ lo.setCell (p := ⟨W0.heap.size, 0, none⟩) (by show w5.heap.size ≤ W0.heap.size; omega) _
                  rw [hV] at hfin a13 ⊢
                  clear hV
                  refine hK.out _ _ (HCell.out _ lo) (fun hHeld => ?_)
                  clear hK K
                  try simp only [Act.put, List.setIfInBounds_toArray, List.set_cons_zero, List.set_cons_succ]
                  (refine gheld_val (i := 15) rfl (by kernel_rfl) (by kernel_rfl) (by kernel_rfl) hHeld (by rfl) ?_; apply Exists.intro; refine ⟨fun wq hSw => ?_, ?_⟩; ((try dsimp only at hSw); obtain ⟨c1, c2, c3⟩ := hSw; go_simp; try rfl); try simp only [Act.put, List.setIfInBounds_toArray, List.set_cons_zero, List.set_cons_succ])
                  refine wpAnyH_done (by kernel_rfl) ⟨rfl, ?_⟩ _
                  exact HRest.out V80 V74.heap.size V76.heap.size W0.heap.size _ _ A4 R4 c4 lo a13 q1 hfin
        · have own0 := own
          go_simp
          obtain ⟨V81, hV⟩ : ∃ V, V75.alloc (.cells #[.int .i64 xa, .int .i64 xb] 36) = V := ⟨_, rfl⟩
          have szq : V81.heap.size = V75.heap.size + 1 := by rw [← hV]; exact World.size_alloc _ _
          have sz : V81.heap.size ≤ V75.heap.size + 1 ∧ V75.heap.size + 1 ≤ V81.heap.size := by omega
          clear szq
          have hb : Below V75.heap.size V75 V81 := hV ▸ one_below _ _
          have gz := lo.size
          have lo := lo.trans (hb.mono lo.size)
          have anew : V81.heap[V75.heap.size]? = some (.cells #[.int .i64 xa, .int .i64 xb] 36 (0, 0)) := hV ▸ World.alloc_heap_new _ _
          have a13 := (hb.block _ (by omega)).trans a13
          have own : V81.ownsRow w5.heap.size 36 2 (.slice (some ⟨V74.heap.size, 0, none⟩) 0 0) 0 [] := hV ▸ own.alloc _
          have a7 := anew
          have ne7 : Value.ownBlock (.slice (some ⟨V74.heap.size, 0, none⟩) 0 0) ≠ some V75.heap.size := fun e => absurd (own_blk_lt own0 e) (Nat.lt_irrefl _)
          clear anew
          rw [hV]
          clear hV
          refine hK.out _ _ (HCell.out _ lo) (fun hHeld => ?_)
          clear hK K
          try simp only [Act.put, List.setIfInBounds_toArray, List.set_cons_zero, List.set_cons_succ]
          refine wpAnyH_ready (rs := [5]) (by kernel_rfl) (by simp) ?_
          refine AllReadyH.cons (gof_drop rfl) (fun K hK => ?_) AllReadyH.nil
          · refine arcs_atN (by rfl) (.tmp 59) (.tmp 60) (by rfl) w5.heap.size _ 0 [] (by rfl) own A1 n c1 (acs L) (by rfl) hcp.2 hcp.1 hacl (HArc.out _ lo) (acs_one _) (by omega) lo.size ?_
            intro v5 V82 own2 gr h4
            have lo2 := lo.trans (grown_low gr own lo.size)
            have gsz := gr.size
            have a7 := (gr.block _ (Array.getElem?_eq_some_iff.1 a7).1 (fun e => ne7 e.symm)).trans a7
            have ne7 : v5.ownBlock ≠ some V75.heap.size := fun e => by rcases h4 with q | q; exact ne7 (q.symm.trans e); have : V81.heap.size = V75.heap.size := Option.some.inj (q.symm.trans e); omega
            have a13 := (gr.block _ (Array.getElem?_eq_some_iff.1 a13).1 (fun e => ne13 e.symm)).trans a13
            have ne13 : v5.ownBlock ≠ some W0.heap.size := fun e => by rcases h4 with q | q; exact ne13 (q.symm.trans e); have : V81.heap.size = W0.heap.size := Option.some.inj (q.symm.trans e); omega
            have own := own2
            have lo := lo2
            clear own2 lo2 gr h4
            rw [Nat.zero_add, List.nil_append] at own
            obtain ⟨Ax5, cx5, rfl⟩ := own_sliceT own
            refine hK.out _ _ (HCell.out _ lo) (fun hHeld => ?_)
            clear hK K
            try simp only [Act.put, List.setIfInBounds_toArray, List.set_cons_zero, List.set_cons_succ]
            refine wpAnyH_ready (rs := [8]) (by kernel_rfl) (by simp) ?_
            refine AllReadyH.cons (gof_drop rfl) (fun K hK => ?_) AllReadyH.nil
            · refine arcs_at (by rfl) (.tmp 61) (.tmp 63) (by rfl) w5.heap.size _ n (acs L) (by rfl) own V75.heap.size 0 1 1 [.int .i64 xa, .int .i64 xb] (by rfl) rfl (fun j u hj => (cell_at a7 _).trans (by rw [Nat.zero_add]; simpa using hj)) (by simp [Value.oneCell']) (by omega) lo.size ?_
              intro v8 V83 own2 gr h4
              have lo2 := lo.trans (grown_low gr own lo.size)
              have gsz := gr.size
              have a13 := (gr.block _ (Array.getElem?_eq_some_iff.1 a13).1 (fun e => ne13 e.symm)).trans a13
              have ne13 : v8.ownBlock ≠ some W0.heap.size := fun e => by rcases h4 with q | q; exact ne13 (q.symm.trans e); have : V82.heap.size = W0.heap.size := Option.some.inj (q.symm.trans e); omega
              have own := own2
              have lo := lo2
              clear own2 lo2 gr h4
              obtain ⟨Ax8, cx8, rfl⟩ := own_sliceT own
              refine hK.out _ _ (HCell.out _ lo) (fun hHeld => ?_)
              clear hK K
              try simp only [Act.put, List.setIfInBounds_toArray, List.set_cons_zero, List.set_cons_succ]
              refine wpAnyH_ready (rs := [9]) (by kernel_rfl) (by simp) ?_
              refine AllReadyH.cons (gof_drop rfl) (fun K hK => ?_) AllReadyH.nil
              · go_simp
                have hrd : RdV V83 V83.heap.size Ax8 (rcs (rz L ++ [(xa, xb)])) := by have := own_rdvA own; rw [rcs_append]; exact this
                refine (HO.out Ax8 cx8 V83 hrd).mono ?_
                rintro e V84 ⟨A4, R4, c4, rfl, q1, rdh, q3⟩
                have gz := lo.size
                have gq := q3.size
                have lo := lo.trans (q3.mono lo.size)
                have alt := (Array.getElem?_eq_some_iff.1 a13).1
                have a13 := (q3.block _ alt).trans a13
                have hfin : ∀ y, RdG (V84.setCell ⟨W0.heap.size, 0, none⟩ y) (V84.setCell ⟨W0.heap.size, 0, none⟩ y).heap.size A4 R4 := fun y => rdh _ (fun k h1 h2 => Below.heap_setCell _ _ _ _ (by show k ≠ W0.heap.size; omega)) (by simp [World.setCell])
                clear hrd
                refine hK.out _ _ (HCell.out _ lo) (fun hHeld => ?_)
                clear hK K
                try simp only [Act.put, List.setIfInBounds_toArray, List.set_cons_zero, List.set_cons_succ]
                (refine gheld_val (i := 10) rfl (by kernel_rfl) (by kernel_rfl) (by kernel_rfl) hHeld (by rfl) ?_; apply Exists.intro; refine ⟨fun wq hSw => ?_, ?_⟩; ((try dsimp only at hSw); obtain ⟨c1, c2, c3⟩ := hSw; go_simp; try rfl); try simp only [Act.put, List.setIfInBounds_toArray, List.set_cons_zero, List.set_cons_succ])
                (refine gheld_val (i := 11) rfl (by kernel_rfl) (by kernel_rfl) (by kernel_rfl) hHeld (by rfl) ?_; apply Exists.intro; refine ⟨fun wq hSw => ?_, ?_⟩; ((try dsimp only at hSw); obtain ⟨c1, c2, c3⟩ := hSw; go_simp; try rfl); try simp only [Act.put, List.setIfInBounds_toArray, List.set_cons_zero, List.set_cons_succ])
                (refine gheld_val (i := 12) rfl (by kernel_rfl) (by kernel_rfl) (by kernel_rfl) hHeld (by rfl) ?_; apply Exists.intro; refine ⟨fun wq hSw => ?_, ?_⟩; ((try dsimp only at hSw); obtain ⟨c1, c2, c3⟩ := hSw; go_simp; try rfl); try simp only [Act.put, List.setIfInBounds_toArray, List.set_cons_zero, List.set_cons_succ])
                refine wpAnyH_ready (rs := [14]) (by kernel_rfl) (by simp) ?_
                refine AllReadyH.cons (gof_drop rfl) (fun K hK => ?_) AllReadyH.nil
                · have kf := frz_at a13 0
                  have kc : V84.cell? ⟨W0.heap.size, 0, none⟩ = some (.slice none 0 0) := (cell_at a13 0).trans rfl
                  go_simp
                  clear kf kc
                  obtain ⟨V85, hV⟩ : ∃ V, V84.setCell ⟨W0.heap.size, 0, none⟩ (.slice A4 N1 c4) = V := ⟨_, rfl⟩
                  have hfin := hfin (.slice A4 N1 c4)
                  have a13 := heap_set_same _ _ 0 (.slice A4 N1 c4) _ _ a13
                  have lo : Below w5.heap.size w5 V85 := hV ▸ lo.setCell (p := ⟨W0.heap.size, 0, none⟩) (by show w5.heap.size ≤ W0.heap.size; omega) _
                  rw [hV] at hfin a13 ⊢
                  clear hV
                  refine hK.out _ _ (HCell.out _ lo) (fun hHeld => ?_)
                  clear hK K
                  try simp only [Act.put, List.setIfInBounds_toArray, List.set_cons_zero, List.set_cons_succ]
                  (refine gheld_val (i := 15) rfl (by kernel_rfl) (by kernel_rfl) (by kernel_rfl) hHeld (by rfl) ?_; apply Exists.intro; refine ⟨fun wq hSw => ?_, ?_⟩; ((try dsimp only at hSw); obtain ⟨c1, c2, c3⟩ := hSw; go_simp; try rfl); try simp only [Act.put, List.setIfInBounds_toArray, List.set_cons_zero, List.set_cons_succ])
                  refine wpAnyH_done (by kernel_rfl) ⟨rfl, ?_⟩ _
                  exact HRest.out V85 V74.heap.size V75.heap.size W0.heap.size _ _ A4 R4 c4 lo a13 q1 hfin
      · go_simp
        obtain ⟨V86, hV⟩ : ∃ V, V74.alloc (.cells #[.int .i64 xa, .int .i64 xb] 36) = V := ⟨_, rfl⟩
        have szq : V86.heap.size = V74.heap.size + 1 := by rw [← hV]; exact World.size_alloc _ _
        have sz : V86.heap.size ≤ V74.heap.size + 1 ∧ V74.heap.size + 1 ≤ V86.heap.size := by omega
        clear szq
        have hb : Below V74.heap.size V74 V86 := hV ▸ one_below _ _
        have gz := lo.size
        have lo := lo.trans (hb.mono lo.size)
        have anew : V86.heap[V74.heap.size]? = some (.cells #[.int .i64 xa, .int .i64 xb] 36 (0, 0)) := hV ▸ World.alloc_heap_new _ _
        have a13 := (hb.block _ (by omega)).trans a13
        have a7 := anew
        clear anew
        rw [hV]
        clear hV
        refine hK.out _ _ (HCell.out _ lo) (fun hHeld => ?_)
        clear hK K
        try simp only [Act.put, List.setIfInBounds_toArray, List.set_cons_zero, List.set_cons_succ]
        refine wpAnyH_ready (rs := [3]) (by kernel_rfl) (by simp) ?_
        refine AllReadyH.cons (gof_drop rfl) (fun K hK => ?_) AllReadyH.nil
        · go_simp
          obtain ⟨V87, hV⟩ : ∃ V, V86.alloc (.cells #[] 36) = V := ⟨_, rfl⟩
          have szq : V87.heap.size = V86.heap.size + 1 := by rw [← hV]; exact World.size_alloc _ _
          have sz : V87.heap.size ≤ V86.heap.size + 1 ∧ V86.heap.size + 1 ≤ V87.heap.size := by omega
          clear szq
          have hb : Below V86.heap.size V86 V87 := hV ▸ one_below _ _
          have gz := lo.size
          have lo := lo.trans (hb.mono lo.size)
          have anew : V87.heap[V86.heap.size]? = some (.cells #[] 36 (0, 0)) := hV ▸ World.alloc_heap_new _ _
          have a7 := (hb.block _ (by omega)).trans a7
          have a13 := (hb.block _ (by omega)).trans a13
          have own : V87.ownsRow w5.heap.size 36 2 (.slice (some ⟨V86.heap.size, 0, none⟩) 0 0) 0 [] := ⟨rfl, .inr ⟨V86.heap.size, 0, #[], rfl, by omega, anew, by omega, by decide, rfl, rfl⟩⟩
          have ne7 : (Value.slice (some ⟨V86.heap.size, 0, none⟩) 0 0).ownBlock ≠ some V74.heap.size := fun e => by have : V86.heap.size = V74.heap.size := Option.some.inj e; omega
          have ne13 : (Value.slice (some ⟨V86.heap.size, 0, none⟩) 0 0).ownBlock ≠ some W0.heap.size := fun e => by have : V86.heap.size = W0.heap.size := Option.some.inj e; omega
          clear anew
          rw [hV]
          clear hV
          refine hK.out _ _ (HCell.out _ lo) (fun hHeld => ?_)
          clear hK K
          try simp only [Act.put, List.setIfInBounds_toArray, List.set_cons_zero, List.set_cons_succ]
          refine wpAnyH_ready (rs := [5]) (by kernel_rfl) (by simp) ?_
          refine AllReadyH.cons (gof_drop rfl) (fun K hK => ?_) AllReadyH.nil
          · refine arcs_atN (by rfl) (.tmp 59) (.tmp 60) (by rfl) w5.heap.size _ 0 [] (by rfl) own A1 n c1 (acs L) (by rfl) hcp.2 hcp.1 hacl (HArc.out _ lo) (acs_one _) (by omega) lo.size ?_
            intro v5 V88 own2 gr h4
            have lo2 := lo.trans (grown_low gr own lo.size)
            have gsz := gr.size
            have a7 := (gr.block _ (Array.getElem?_eq_some_iff.1 a7).1 (fun e => ne7 e.symm)).trans a7
            have ne7 : v5.ownBlock ≠ some V74.heap.size := fun e => by rcases h4 with q | q; exact ne7 (q.symm.trans e); have : V87.heap.size = V74.heap.size := Option.some.inj (q.symm.trans e); omega
            have a13 := (gr.block _ (Array.getElem?_eq_some_iff.1 a13).1 (fun e => ne13 e.symm)).trans a13
            have ne13 : v5.ownBlock ≠ some W0.heap.size := fun e => by rcases h4 with q | q; exact ne13 (q.symm.trans e); have : V87.heap.size = W0.heap.size := Option.some.inj (q.symm.trans e); omega
            have own := own2
            have lo := lo2
            clear own2 lo2 gr h4
            rw [Nat.zero_add, List.nil_append] at own
            obtain ⟨Ax5, cx5, rfl⟩ := own_sliceT own
            refine hK.out _ _ (HCell.out _ lo) (fun hHeld => ?_)
            clear hK K
            try simp only [Act.put, List.setIfInBounds_toArray, List.set_cons_zero, List.set_cons_succ]
            refine wpAnyH_ready (rs := [8]) (by kernel_rfl) (by simp) ?_
            refine AllReadyH.cons (gof_drop rfl) (fun K hK => ?_) AllReadyH.nil
            · refine arcs_at (by rfl) (.tmp 61) (.tmp 63) (by rfl) w5.heap.size _ n (acs L) (by rfl) own V74.heap.size 0 1 1 [.int .i64 xa, .int .i64 xb] (by rfl) rfl (fun j u hj => (cell_at a7 _).trans (by rw [Nat.zero_add]; simpa using hj)) (by simp [Value.oneCell']) (by omega) lo.size ?_
              intro v8 V89 own2 gr h4
              have lo2 := lo.trans (grown_low gr own lo.size)
              have gsz := gr.size
              have a13 := (gr.block _ (Array.getElem?_eq_some_iff.1 a13).1 (fun e => ne13 e.symm)).trans a13
              have ne13 : v8.ownBlock ≠ some W0.heap.size := fun e => by rcases h4 with q | q; exact ne13 (q.symm.trans e); have : V88.heap.size = W0.heap.size := Option.some.inj (q.symm.trans e); omega
              have own := own2
              have lo := lo2
              clear own2 lo2 gr h4
              obtain ⟨Ax8, cx8, rfl⟩ := own_sliceT own
              refine hK.out _ _ (HCell.out _ lo) (fun hHeld => ?_)
              clear hK K
              try simp only [Act.put, List.setIfInBounds_toArray, List.set_cons_zero, List.set_cons_succ]
              refine wpAnyH_ready (rs := [9]) (by kernel_rfl) (by simp) ?_
              refine AllReadyH.cons (gof_drop rfl) (fun K hK => ?_) AllReadyH.nil
              · go_simp
                have hrd : RdV V89 V89.heap.size Ax8 (rcs (rz L ++ [(xa, xb)])) := by have := own_rdvA own; rw [rcs_append]; exact this
                refine (HO.out Ax8 cx8 V89 hrd).mono ?_
                rintro e V90 ⟨A4, R4, c4, rfl, q1, rdh, q3⟩
                have gz := lo.size
                have gq := q3.size
                have lo := lo.trans (q3.mono lo.size)
                have alt := (Array.getElem?_eq_some_iff.1 a13).1
                have a13 := (q3.block _ alt).trans a13
                have hfin : ∀ y, RdG (V90.setCell ⟨W0.heap.size, 0, none⟩ y) (V90.setCell ⟨W0.heap.size, 0, none⟩ y).heap.size A4 R4 := fun y => rdh _ (fun k h1 h2 => Below.heap_setCell _ _ _ _ (by show k ≠ W0.heap.size; omega)) (by simp [World.setCell])
                clear hrd
                refine hK.out _ _ (HCell.out _ lo) (fun hHeld => ?_)
                clear hK K
                try simp only [Act.put, List.setIfInBounds_toArray, List.set_cons_zero, List.set_cons_succ]
                (refine gheld_val (i := 10) rfl (by kernel_rfl) (by kernel_rfl) (by kernel_rfl) hHeld (by rfl) ?_; apply Exists.intro; refine ⟨fun wq hSw => ?_, ?_⟩; ((try dsimp only at hSw); obtain ⟨c1, c2, c3⟩ := hSw; go_simp; try rfl); try simp only [Act.put, List.setIfInBounds_toArray, List.set_cons_zero, List.set_cons_succ])
                (refine gheld_val (i := 11) rfl (by kernel_rfl) (by kernel_rfl) (by kernel_rfl) hHeld (by rfl) ?_; apply Exists.intro; refine ⟨fun wq hSw => ?_, ?_⟩; ((try dsimp only at hSw); obtain ⟨c1, c2, c3⟩ := hSw; go_simp; try rfl); try simp only [Act.put, List.setIfInBounds_toArray, List.set_cons_zero, List.set_cons_succ])
                (refine gheld_val (i := 12) rfl (by kernel_rfl) (by kernel_rfl) (by kernel_rfl) hHeld (by rfl) ?_; apply Exists.intro; refine ⟨fun wq hSw => ?_, ?_⟩; ((try dsimp only at hSw); obtain ⟨c1, c2, c3⟩ := hSw; go_simp; try rfl); try simp only [Act.put, List.setIfInBounds_toArray, List.set_cons_zero, List.set_cons_succ])
                refine wpAnyH_ready (rs := [14]) (by kernel_rfl) (by simp) ?_
                refine AllReadyH.cons (gof_drop rfl) (fun K hK => ?_) AllReadyH.nil
                · have kf := frz_at a13 0
                  have kc : V90.cell? ⟨W0.heap.size, 0, none⟩ = some (.slice none 0 0) := (cell_at a13 0).trans rfl
                  go_simp
                  clear kf kc
                  obtain ⟨V91, hV⟩ : ∃ V, V90.setCell ⟨W0.heap.size, 0, none⟩ (.slice A4 N1 c4) = V := ⟨_, rfl⟩
                  have hfin := hfin (.slice A4 N1 c4)
                  have a13 := heap_set_same _ _ 0 (.slice A4 N1 c4) _ _ a13
                  have lo : Below w5.heap.size w5 V91 := hV ▸ lo.setCell (p := ⟨W0.heap.size, 0, none⟩) (by show w5.heap.size ≤ W0.heap.size; omega) _
                  rw [hV] at hfin a13 ⊢
                  clear hV
                  refine hK.out _ _ (HCell.out _ lo) (fun hHeld => ?_)
                  clear hK K
                  try simp only [Act.put, List.setIfInBounds_toArray, List.set_cons_zero, List.set_cons_succ]
                  (refine gheld_val (i := 15) rfl (by kernel_rfl) (by kernel_rfl) (by kernel_rfl) hHeld (by rfl) ?_; apply Exists.intro; refine ⟨fun wq hSw => ?_, ?_⟩; ((try dsimp only at hSw); obtain ⟨c1, c2, c3⟩ := hSw; go_simp; try rfl); try simp only [Act.put, List.setIfInBounds_toArray, List.set_cons_zero, List.set_cons_succ])
                  refine wpAnyH_done (by kernel_rfl) ⟨rfl, ?_⟩ _
                  exact HRest.out V91 V86.heap.size V74.heap.size W0.heap.size _ _ A4 R4 c4 lo a13 q1 hfin
  · have HNu := Lib.hid (lw_num_e R N hN hn _ rfl e0)
    have HTh := Lib.hid (lw_thr_e R N hN hn _ rfl e0)
    have HT : Hid (∀ A c V, RdG V V.heap.size A R → Calls Try.prog 16 #[.agg #[.slice A N c]] V (ArcsP V [] (grE (gs R)))) := fun A c V h => garcs_e R N hN hn _ rfl e0 A c V h
    have t1 : (grE (gs R) == 0) = false := by simpa using e0
    have u1 : (grE (gs R) != 0) = true := by simpa using e0
    clear e0 hN hn
    generalize grE (gs R) = e1 at *
    have HB : Hid (Below w.heap.size w w) := Below.refl _ w
    have HR := Lib.hid hA; clear hA
    go_enter Try.func9, Try.ntmps9
    have HBq : Hid (Below w.heap.size w (w.alloc (.cells #[.slice A N c] 24))) := one_below _ _
    replace HB : Hid (Below w.heap.size w (w.alloc (.cells #[.slice A N c] 24))) := HB.out.trans (HBq.out.mono HB.out.size)
    replace HR : Hid (RdG (w.alloc (.cells #[.slice A N c] 24)) ((w.alloc (.cells #[.slice A N c] 24))).heap.size A R) := HR.out.on HBq.out
    clear HBq
    have K0 : Hid (((w.alloc (.cells #[.slice A N c] 24))).cell? ⟨w.heap.size, 0, none⟩ = some (.slice A N c)) := (cell_at (World.alloc_heap_new w _) 0).trans rfl
    have HBq : Hid (Below (w.alloc (.cells #[.slice A N c] 24)).heap.size (w.alloc (.cells #[.slice A N c] 24)) ((w.alloc (.cells #[.slice A N c] 24)).alloc (.cells #[.int .i64 xa, .int .i64 xb] 36))) := one_below _ _
    replace HB : Hid (Below w.heap.size w ((w.alloc (.cells #[.slice A N c] 24)).alloc (.cells #[.int .i64 xa, .int .i64 xb] 36))) := HB.out.trans (HBq.out.mono HB.out.size)
    replace HR : Hid (RdG ((w.alloc (.cells #[.slice A N c] 24)).alloc (.cells #[.int .i64 xa, .int .i64 xb] 36)) (((w.alloc (.cells #[.slice A N c] 24)).alloc (.cells #[.int .i64 xa, .int .i64 xb] 36))).heap.size A R) := HR.out.on HBq.out
    replace K0 : Hid ((((w.alloc (.cells #[.slice A N c] 24)).alloc (.cells #[.int .i64 xa, .int .i64 xb] 36))).cell? ⟨w.heap.size, 0, none⟩ = some (.slice A N c)) := (HBq.out.cell (World.block_lt_of_cell? _ _ K0.out)).trans K0.out
    clear HBq
    have HC := Lib.hid (HNu.out A c _ HR.out)
    have k_K0 := K0.out
    go_wp2_with fail
    clear k_K0
    refine HC.out.mono ?_
    rintro e w1 ⟨rfl, bq⟩
    clear HC
    have HBc := Lib.hid bq; clear bq
    have HBq : Hid (Below ((w.alloc (.cells #[.slice A N c] 24)).alloc (.cells #[.int .i64 xa, .int .i64 xb] 36)).heap.size ((w.alloc (.cells #[.slice A N c] 24)).alloc (.cells #[.int .i64 xa, .int .i64 xb] 36)) w1) := HBc.out
    replace HB : Hid (Below w.heap.size w w1) := HB.out.trans (HBq.out.mono HB.out.size)
    replace HR : Hid (RdG w1 (w1).heap.size A R) := HR.out.on HBq.out
    replace K0 : Hid ((w1).cell? ⟨w.heap.size, 0, none⟩ = some (.slice A N c)) := (HBq.out.cell (World.block_lt_of_cell? _ _ K0.out)).trans K0.out
    clear HBq
    clear HBc
    have HC := Lib.hid (HTh.out A c _ HR.out)
    have k_K0 := K0.out
    go_wp2_with fail
    clear k_K0
    refine HC.out.mono ?_
    rintro e w2 ⟨rfl, bq⟩
    clear HC
    have HBc := Lib.hid bq; clear bq
    have HBq : Hid (Below w1.heap.size w1 w2) := HBc.out
    replace HB : Hid (Below w.heap.size w w2) := HB.out.trans (HBq.out.mono HB.out.size)
    replace HR : Hid (RdG w2 (w2).heap.size A R) := HR.out.on HBq.out
    replace K0 : Hid ((w2).cell? ⟨w.heap.size, 0, none⟩ = some (.slice A N c)) := (HBq.out.cell (World.block_lt_of_cell? _ _ K0.out)).trans K0.out
    clear HBq
    clear HBc
    have HC := Lib.hid (HT.out A c _ HR.out)
    have k_K0 := K0.out
    go_wp2_with fail
    clear k_K0
    refine HC.out.mono ?_
    rintro e w3 ⟨A1, c1, rfl, hcp, -, bq⟩
    clear HC
    have HBc := Lib.hid bq; clear bq
    have HBq : Hid (Below w2.heap.size w2 w3) := HBc.out
    replace HB : Hid (Below w.heap.size w w3) := HB.out.trans (HBq.out.mono HB.out.size)
    replace HR : Hid (RdG w3 (w3).heap.size A R) := HR.out.on HBq.out
    replace K0 : Hid ((w3).cell? ⟨w.heap.size, 0, none⟩ = some (.slice A N c)) := (HBq.out.cell (World.block_lt_of_cell? _ _ K0.out)).trans K0.out
    clear HBq
    clear HBc
    have HC := Lib.hid (corebegun_true w3)
    go_wp2_with fail
    refine HC.out.mono ?_
    rintro e w4 ⟨rfl, bq⟩
    clear HC
    have HBc := Lib.hid bq; clear bq
    have HBq : Hid (Below w3.heap.size w3 w4) := HBc.out
    replace HB : Hid (Below w.heap.size w w4) := HB.out.trans (HBq.out.mono HB.out.size)
    replace HR : Hid (RdG w4 (w4).heap.size A R) := HR.out.on HBq.out
    replace K0 : Hid ((w4).cell? ⟨w.heap.size, 0, none⟩ = some (.slice A N c)) := (HBq.out.cell (World.block_lt_of_cell? _ _ K0.out)).trans K0.out
    clear HBq
    clear HBc
    have HC := Lib.hid (graphbegun_true w4)
    go_wp2_with fail
    refine HC.out.mono ?_
    rintro e w5 ⟨rfl, bq⟩
    clear HC
    have HBc := Lib.hid bq; clear bq
    have HBq : Hid (Below w4.heap.size w4 w5) := HBc.out
    replace HB : Hid (Below w.heap.size w w5) := HB.out.trans (HBq.out.mono HB.out.size)
    replace HR : Hid (RdG w5 (w5).heap.size A R) := HR.out.on HBq.out
    replace K0 : Hid ((w5).cell? ⟨w.heap.size, 0, none⟩ = some (.slice A N c)) := (HBq.out.cell (World.block_lt_of_cell? _ _ K0.out)).trans K0.out
    clear HBq
    clear HBc
    go_wp2
    go_ret
    exact ⟨rfl, HB.out⟩
end

section
section
open Go.ChangeShapes Go.WideShapes Go.ChangeAt Go.RowKit Go.Joins

theorem cells3i : Try.prog.cellsOf 3 = 1 := by kernel_rfl

set_option maxRecDepth 100000 in
/-- Numbers that were handed in. -/
theorem open_zs {H : Type} {enc : TypeId × Value → H} {W : World} {base : Nat} {v : Value} {d : DataW H} {p : List MemPlace}
    (hv : Value.okWide Try.prog W .any base 25 v) (h : DataW.Trod enc Try.prog W 0 (fun _ => true) true 25 v d p) :
    ∃ (A : Option Addr) (c : Nat) (xs : List Int), v = .slice A xs.length c ∧ xs.length ≤ c ∧ (A = none → c = 0) ∧ RdV W W.heap.size A (zc xs) ∧ (∀ x ∈ xs, -9223372036854775808 ≤ x ∧ x ≤ 9223372036854775807) ∧ xs.length ≤ 9223372036854775807 := by
  obtain ⟨a0, len0, cap0, rfl⟩ := okWide_slice Try.underlying25 hv
  obtain ⟨fuel, hf⟩ := h
  rcases open_ints Try.underlying25 Try.underlying3 cells3i hf with ⟨hcs, _⟩ | ⟨x, l, c, zs, hcs, _, hl, hm, hz, _, hcell, hwz⟩
  · simp [Value.cells] at hcs
    obtain ⟨rfl, rfl, rfl⟩ := hcs
    exact ⟨none, 0, [], rfl, by simp, fun _ => rfl, .inl rfl, by simp, by simp⟩
  · simp [Value.cells] at hcs
    obtain ⟨rfl, rfl, rfl⟩ := hcs
    have hzc : zs.length = cap0 := by simpa using hz
    have hlen : (zs.take len0).length = len0 := by rw [List.length_take]; omega
    unfold maxLen at hm
    refine ⟨some x, cap0, zs.take len0, by rw [hlen], by rw [hlen]; exact hl, (fun h => by cases h), ?_, ?_, by rw [hlen]; omega⟩
    · rcases Nat.eq_zero_or_pos len0 with h0 | h0
      · left; rw [h0]; rfl
      · obtain ⟨b, off, rfl, hc⟩ := ints_at hcell (by omega)
        refine .inr ⟨b, off, rfl, lt_of_cell (hc 0 (by omega)), fun i v hi => ?_⟩
        have hil : i < len0 := by
          rcases Nat.lt_or_ge i len0 with h | h
          · exact h
          · rw [List.getElem?_eq_none (by rw [zc_length, hlen]; exact h)] at hi; cases hi
        rw [zc_get _ i (by rw [hlen]; exact hil)] at hi
        cases hi
        rw [hc i (by omega)]
        have hz0 : zs.getD i 0 = zs[i]'(by omega) := by rw [List.getD_eq_getElem?_getD, List.getElem?_eq_getElem (by omega)]; rfl
        have e1 : (zs.take len0)[i]?.getD 0 = zs[i]'(by omega) := by
          rw [List.getElem?_take_of_lt hil, List.getElem?_eq_getElem (by omega)]; rfl
        rw [e1, hz0]
    · intro n hn
      exact bounds_i64 (hwz n (List.mem_of_mem_take hn))
end

section
open Go.ChangeShapes Go.WideShapes Go.ChangeAt Go.RowKit Go.Joins Go.Deep

theorem cellsG : Try.prog.cellsOf 24 = 1 := by kernel_rfl
theorem cellsL1 : Try.prog.cellsOf 25 = 1 := by kernel_rfl
theorem cellsL2 : Try.prog.cellsOf 22 = 1 := by kernel_rfl
theorem bytesL1 : Try.prog.bytesOf 25 = 24 := by kernel_rfl
theorem bytesI1 : Try.prog.bytesOf 3 = 8 := by kernel_rfl
theorem weightsAll_mem {H : Type} {P : Program} {e : TypeId} {n : Nat} : ∀ {l : List (DataW H)} {d : DataW H}, d ∈ l → n ∈ d.weights P e → n ∈ DataW.weightsAll P e l
  | x :: t, d, hd, hn => by
    simp only [DataW.weightsAll, List.mem_append]
    rcases List.mem_cons.1 hd with rfl | h
    · exact .inl hn
    · exact .inr (weightsAll_mem h hn)
theorem add_plG (b off k : Nat) : (⟨b, off, none⟩ : Addr).add k = ⟨b, off + k, none⟩ := by unfold Addr.add; split <;> simp_all
theorem zc_mem {l : List Int} {i : Nat} {v : Value} (h : (zc l)[i]? = some v) : ∃ hi : i < l.length, v = .int .i64 l[i] := by
  unfold zc at h
  rw [List.getElem?_map] at h
  obtain ⟨x, hx, rfl⟩ := Option.map_eq_some_iff.1 h
  obtain ⟨hi, rfl⟩ := List.getElem?_eq_some_iff.1 hx
  exact ⟨hi, rfl⟩
set_option maxRecDepth 100000 in
/-- A graph that was handed in. -/
theorem open_graph {H : Type} {enc : TypeId × Value → H} {W : World} {base : Nat} {v : Value} {d : DataW H} {p : List MemPlace}
    (hv : Value.okWide Try.prog W .any base 24 v) (h : DataW.Trod enc Try.prog W 0 (fun _ => true) true 24 v d p)
    (hz : ∀ n ∈ d.weights Try.prog 24, n ≤ reachBytes) :
    ∃ (A : Option Addr) (c : Nat) (R : List Rw), v = .agg #[.slice A R.length c] ∧ RdG W W.heap.size A R ∧ R.length ≤ 140737488355328 := by
  obtain ⟨cs, rfl, hsz⟩ := okWide_struct Try.underlying24 hv
  obtain ⟨c0, rfl⟩ := Array.size_eq_one_iff.1 (hsz.trans cellsG)
  obtain ⟨fuel, hf⟩ := h
  obtain ⟨y0, n, hx, _, h0⟩ := trod_struct1 Try.underlying24 hf
  simp only [Prod.mk.injEq] at hx
  obtain ⟨rfl, rfl⟩ := hx
  simp [Value.cells, cellsL2] at h0
  have hz0 : ∀ n ∈ y0.1.weights Try.prog 22, n ≤ reachBytes := fun n hn => hz n (by
    unfold DataW.weights
    rw [Try.underlying24]
    simp only [List.map_cons, List.map_nil, DataW.weightsEach, List.append_nil]
    exact hn)
  have hrb := reachBytes_lt
  rcases open_int_rows Try.underlying22 Try.underlying25 Try.underlying3 cellsL1 cells3i h0 with ⟨hcs, _⟩ | ⟨a, len, cap, A, L, C, Z, hcs, _, hl, hm, hx, hrow⟩
  · simp at hcs
    subst hcs
    exact ⟨none, 0, [], rfl, ⟨.inl rfl, fun r hr => by simp at hr⟩, by simp⟩
  · simp at hcs
    subst hcs
    rw [hx] at hz0
    have hlen : (len + (cap - len)) * 24 ≤ reachBytes := hz0 _ (by
      simp only [DataW.weights, Try.underlying22, List.length_map, List.length_range, bytesL1]
      exact List.mem_cons_self)
    have hrl : ∀ r, r < len → L r ≤ 140737488355328 := fun r hr => by
      obtain ⟨_, q1, q2, q3, _, q5, _⟩ := hrow r (by omega)
      cases hA : A r with
      | none => rw [q5 hA] at q1; omega
      | some a' =>
        have := hz0 (((Z r).take (L r)).length * 8 + ((Z r).drop (L r)).length * 8) (by
          simp only [DataW.weights, Try.underlying22, List.length_map, List.length_range, bytesL1]
          refine List.mem_cons_of_mem _ (List.mem_append.2 (.inl (weightsAll_mem (List.mem_map.2 ⟨r, List.mem_range.2 hr, rfl⟩) ?_)))
          unfold intRow
          rw [hA]
          simp only [DataW.weights, Try.underlying25, bytesI1, lits, List.length_map]
          refine List.mem_cons.2 (.inl ?_)
          omega)
        rw [List.length_take] at this
        omega
    refine ⟨some a, cap, (List.range len).map fun r => (A r, C r, (Z r).take (L r)), by simp, ⟨?_, ?_⟩, by simp; omega⟩
    · rcases Nat.eq_zero_or_pos len with h0 | h0
      · left; rw [h0]; rfl
      · obtain ⟨b, off, spot⟩ := a
        have hspot : spot = none := by simpa [Addr.add] using World.cell?_spot (hrow 0 (by omega)).1
        subst hspot
        refine .inr ⟨b, off, rfl, ?_, fun i v hi => ?_⟩
        · have := (hrow 0 (by omega)).1
          exact lt_of_cell (p := ⟨b, off + 0, none⟩) (by rw [← add_plG]; exact this)
        · unfold rcl at hi
          rw [List.getElem?_map, List.getElem?_map] at hi
          obtain ⟨y, hy, rfl⟩ := Option.map_eq_some_iff.1 hi
          obtain ⟨j, hj, rfl⟩ := Option.map_eq_some_iff.1 hy
          obtain ⟨hil, rfl⟩ := List.getElem?_eq_some_iff.1 hj
          rw [List.length_range] at hil
          have := hrow i (by omega)
          rw [add_plG] at this
          simp only [List.getElem_range]
          unfold sl
          simp only [List.length_take]
          rw [this.1]
          have e : min (L i) (Z i).length = L i := by have q1 := this.2.1; have q2 := this.2.2.2.1; omega
          rw [e]
    · intro r hr
      obtain ⟨i, hi, rfl⟩ := List.mem_map.1 hr
      have hil := List.mem_range.1 hi
      obtain ⟨q0, q1, q2, q3, q4, q5, q6⟩ := hrow i (by omega)
      refine ⟨?_, by simp only [List.length_take]; have := hrl i hil; omega⟩
      simp only
      rcases Nat.eq_zero_or_pos (L i) with h0 | h0
      · left; rw [h0]; rfl
      · cases hA : A i with
        | none => rw [q5 hA] at q1; omega
        | some a' =>
          obtain ⟨_, q7⟩ := q6 a' hA
          obtain ⟨b, off, spot⟩ := a'
          have hspot : spot = none := by simpa [Addr.add] using World.cell?_spot (q7 0 (by omega))
          subst hspot
          refine .inr ⟨b, off, rfl, ?_, fun j v hj => ?_⟩
          · have := q7 0 (by omega)
            exact lt_of_cell (p := ⟨b, off + 0, none⟩) (by rw [← add_plG]; exact this)
          · obtain ⟨hjl, rfl⟩ := zc_mem hj
            have hjl2 : j < L i := by rw [List.length_take] at hjl; omega
            have := q7 j (by omega)
            rw [add_plG] at this
            rw [this]
            simp [List.getD_eq_getElem?_getD, List.getElem?_eq_getElem (show j < (Z i).length by omega)]
end
end

section
open Go.ChangeShapes Go.WideShapes Go.ChangeAt Go.RowKit Go.Joins Go.Deep

theorem cellsArc : Try.prog.cellsOf 36 = 2 := by kernel_rfl
theorem add_plO (b off k : Nat) : (⟨b, off, none⟩ : Addr).add k = ⟨b, off + k, none⟩ := by unfold Addr.add; split <;> simp_all

set_option maxRecDepth 100000 in
/-- Arcs that were handed in. -/
theorem open_arcs {H : Type} {enc : TypeId × Value → H} {W : World} {base : Nat} {v : Value} {d : DataW H} {p : List MemPlace}
    (hv : Value.okWide Try.prog W .any base 30 v) (h : DataW.Trod enc Try.prog W 0 (fun _ => true) true 30 v d p) :
    ∃ (A : Option Addr) (c : Nat) (rs : List Ri), v = .slice A rs.length c ∧ rs.length ≤ c ∧ (A = none → c = 0) ∧ RdV W W.heap.size A (rcs rs) ∧ (∀ x ∈ rs, (-9223372036854775808 ≤ x.1 ∧ x.1 ≤ 9223372036854775807) ∧ (-9223372036854775808 ≤ x.2 ∧ x.2 ≤ 9223372036854775807)) ∧ rs.length ≤ 9223372036854775807 := by
  obtain ⟨a0, len0, cap0, rfl⟩ := okWide_slice Try.underlying30 hv
  obtain ⟨fuel, hf⟩ := h
  rcases open_slice_pairs Try.underlying30 Try.underlying36 cellsArc rfl rfl cells3i cells3i hf with ⟨hcs, _⟩ | ⟨a, len, cap, m, n, V0, V1, D0, D1, P0, P1, hcs, _, hl, hm, hmm, _, hx⟩
  · simp [Value.cells] at hcs
    obtain ⟨rfl, rfl, rfl⟩ := hcs
    exact ⟨none, 0, [], rfl, by simp, fun _ => rfl, .inl rfl, by simp, by simp⟩
  · simp [Value.cells] at hcs
    obtain ⟨rfl, rfl, rfl⟩ := hcs
    have hlm : len0 ≤ m := by rw [hmm]; simp; exact hl
    have each : ∀ i, i < len0 → ∃ x : Ri, W.cell? (a.add (i * 2)) = some (.int .i64 x.1) ∧ W.cell? (a.add (i * 2 + 1)) = some (.int .i64 x.2) ∧ (-9223372036854775808 ≤ x.1 ∧ x.1 ≤ 9223372036854775807) ∧ (-9223372036854775808 ≤ x.2 ∧ x.2 ≤ 9223372036854775807) := by
      intro i hi
      obtain ⟨k0, k1, t0, t1⟩ := hx i (by omega)
      obtain ⟨z, e0, _, w0⟩ := DataW.trod_int Try.underlying3 t0
      obtain ⟨y, e1, _, w1⟩ := DataW.trod_int Try.underlying3 t1
      simp at e0 e1
      rw [e0] at k0
      rw [e1] at k1
      exact ⟨(z, y), k0, k1, bounds_i64 w0, bounds_i64 w1⟩
    obtain ⟨q, hq⟩ := choose_lt each
    have hrl : ((List.range len0).map q).length = len0 := by simp
    have hqi : ∀ i, i < len0 → ((List.range len0).map q)[i]?.getD (0, 0) = q i := fun i hi => by rw [List.getElem?_map, List.getElem?_range hi]; rfl
    refine ⟨some a, cap0, (List.range len0).map q, by rw [hrl], by rw [hrl]; exact hl, (fun h => by cases h), ?_, ?_, by rw [hrl]; unfold maxLen at hm; omega⟩
    · rcases Nat.eq_zero_or_pos len0 with h0 | h0
      · left; rw [h0]; rfl
      · obtain ⟨b, off, spot⟩ := a
        have hspot : spot = none := by simpa [Addr.add] using World.cell?_spot (hq 0 h0).1
        subst hspot
        refine .inr ⟨b, off, rfl, ?_, fun i v hi => ?_⟩
        · have := (hq 0 h0).1
          exact lt_of_cell (p := ⟨b, off + 0 * 2, none⟩) (by rw [← add_plO]; exact this)
        · have hil : i < len0 * 2 := by have := (List.getElem?_eq_some_iff.1 hi).1; rwa [rcs_length, hrl] at this
          obtain ⟨g0, g1, _⟩ := hq (i / 2) (by omega)
          obtain ⟨r0, r1⟩ := rcs_at ((List.range len0).map q) (i / 2) (by rw [hrl]; omega)
          rw [hqi _ (by omega)] at r0 r1
          rw [add_plO] at g0 g1
          rcases (show i = i / 2 * 2 ∨ i = i / 2 * 2 + 1 by omega) with e | e
          · rw [← e] at r0 g0
            rw [r0] at hi; cases hi
            exact g0
          · rw [← e] at r1 g1
            rw [r1] at hi; cases hi
            exact g1
    · intro x hx'
      obtain ⟨i, hi, rfl⟩ := List.mem_map.1 hx'
      exact (hq i (List.mem_range.1 hi)).2.2

set_option maxRecDepth 100000 in
/-- An arc that was handed in. -/
theorem open_arc {H : Type} {enc : TypeId × Value → H} {W : World} {base : Nat} {v : Value} {d : DataW H} {p : List MemPlace}
    (hv : Value.okWide Try.prog W .any base 36 v) (h : DataW.Trod enc Try.prog W 0 (fun _ => true) true 36 v d p) :
    ∃ (x y : Int), v = .agg #[.int .i64 x, .int .i64 y] ∧ (-9223372036854775808 ≤ x ∧ x ≤ 9223372036854775807) ∧ (-9223372036854775808 ≤ y ∧ y ≤ 9223372036854775807) := by
  obtain ⟨c0, c1, y0, y1, m, rfl, rfl, rfl, hy0, hy1⟩ := open_agg2 Try.underlying36 (by kernel_rfl) cellsArc hv h
  obtain ⟨a, e0, _, wa⟩ := DataW.trod_int Try.underlying3 hy0
  obtain ⟨b, e1, _, wb⟩ := DataW.trod_int Try.underlying3 hy1
  simp at e0 e1
  subst e0; subst e1
  exact ⟨a, b, rfl, bounds_i64 wa, bounds_i64 wb⟩
end

section
open Go.ChangeShapes Go.WideShapes Go.ChangeAt Go.RowKit
open Go.ChangeMaps (open_string shut_string)

set_option linter.unusedVariables false
set_option maxRecDepth 100000 in
theorem coreMore_lifted (os : Os) (started : os.Started) (H : Type) (enc : TypeId × Value → H) :
    ReturnsInHanded {} Try.checked os 9 .any (Rows.coreMoreSpec.pre6 enc Try.prog Try.f9 Rows.coreMoreRow.domain false) (Rows.coreMoreSpec.post enc Try.prog Try.f9 false true false false) := by
  refine returnsInHanded_of_change_sized (C := Try.checked) own started (by kernel_rfl) Try.func9
    (ChangeSpec.witness6 (enc := enc) (C := Try.checked) false ⟨#[], #[.agg #[.slice none 0 0], .agg #[.int .i64 0, .int .i64 0]], []⟩ 8 (by kernel_rfl) (by kernel_rfl) (by kernel_rfl) (by kernel_rfl)) ?_
  intro W base args ds gs before hval0 hW hcnd hzz _
  have hval : ∀ (j : Nat) t v, Try.f9.params[j]? = some t → args[j]? = some v → Value.okWide Try.prog W .any base t v := hval0
  have hW' := hW
  obtain ⟨p, q, hA0, hV, rfl, hfz, hnd⟩ := hW
  have hA : DataW.TrodAll enc Try.prog W 0 (fun _ => true) true Try.f9.params.toList args.toList ds p := hA0
  rw [Try.params9] at hA hval hzz
  obtain ⟨v0, vs0, d0, ds0, p0, q0, hargs, rfl, rfl, h0, r0⟩ := trodAll_cons hA
  obtain ⟨v1, vs1, d1, ds1, p1, q1, rfl, rfl, rfl, h1, r1⟩ := trodAll_cons r0
  obtain ⟨rfl, rfl, rfl⟩ := trodAll_nil r1
  obtain rfl : args = #[v0, v1] := by cases args; simp_all
  obtain ⟨rfl, rfl⟩ := trodVars_none hV
  have k0 := h0
  have lt0 : ∀ x ∈ p0, x.block < W.heap.size := by obtain ⟨m, hm⟩ := k0; exact DataW.trod_lt m _ _ _ hm
  obtain ⟨A0, c0, R0, rfl, rd0, nn0⟩ := open_graph (hval 0 24 v0 rfl rfl) h0 (fun n hn => of_decide_eq_true (List.all_eq_true.1 hzz n (DataW.weights_mem_each (j := 0) (t := 24) (d := d0) rfl rfl n hn)))
  have k1 := h1
  have lt1 : ∀ x ∈ p1, x.block < W.heap.size := by obtain ⟨m, hm⟩ := k1; exact DataW.trod_lt m _ _ _ hm
  obtain ⟨xa1, xb1, rfl, ba1, bb1⟩ := open_arc (hval 1 36 v1 rfl rfl) h1
  clear hA0 hval0
  refine (coreMore_law A0 c0 R0 xa1 xb1 W rd0 nn0 ba1 bb1).mono fun e W' ⟨he, bel⟩ => ?_
  subst he
  exact ⟨_, rfl, _, _, _, [], _, [], hW', trodAll_mk1 (shut_bool Try.underlying4 _), (trodAll_cons_mk (Below.trod laidOut (by kernel_rfl) (of_decide_eq_true (by kernel_rfl)) k0 bel lt0) (trodAll_cons_mk (Below.trod laidOut (by kernel_rfl) (of_decide_eq_true (by kernel_rfl)) k1 bel lt1) trodAll_mk0)), rfl, bel.frame _, fun h => by cases h⟩

theorem CoreMore_holds : Rows.CoreMoreSaid :=
  OpenClaim.holds_of_wide 9 Try.f9 rfl rfl rfl rfl rfl rfl rfl ⟨rfl, rfl, rfl, rfl, rfl⟩ rfl rfl rfl rfl rfl (by kernel_rfl) Try.func9 (by kernel_rfl)
    (of_decide_eq_true (by kernel_rfl)) (by unfold Func.isWrapper; first | (rw [if_pos (by decide +kernel)]; kernel_rfl) | (rw [if_neg (by decide +kernel)]; exact ⟨rfl, rfl⟩))
    (fun os started H enc _ => coreMore_lifted os started H enc)
#print axioms CoreMore_holds
end
end Go.Proofs.Ytnbjhldpadjgfaa
