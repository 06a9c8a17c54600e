/- Texts of this proof, one behind the other (RefGen, HCat); each fact names its conditions. -/
import Derived.Test.YtndiocehkdbjkaaJH2
import Derived.Laws.AppendOwnNone
import Derived.Lib.AppendZerosOnto
namespace Go.Proofs.Ytndiocehkdbjkaa

section
set_option maxRecDepth 100000
set_option linter.unusedVariables false
open Go.RowKit

theorem app3 {w : World} {ops : Array Oper} {rest : List Oper} {o : Oper} {a : Act} {Q : Exit → Act → World → Prop} (hgd : o.guard = none) (s x : Operand)
    (ho : o.op = .call { callee := .builtin .append, args := #[s, x], argTypes := #[22, 22] }) (base : Nat)
    (v : Value) (n : Nat) (xs : List Value) (hs : a.eval s = v) (hown : w.ownsRow base 3 1 v n xs)
    (A : Option Addr) (m c : Nat) (news : List Value) (hx : a.eval x = .slice A m c) (hr : RdV w w.heap.size A news) (hlen : news.length = m) (h1 : ∀ u ∈ news, u.oneCell' = true) (hc : A = none → c = 0)
    (hb : (n + m) * 8 ≤ 140737488355328) (hbase : base ≤ w.heap.size)
    (h : ∀ v' w', w'.ownsRow base 3 1 v' (n + m) (xs ++ news) → w.grownBy w' v.ownBlock → wpList Try.prog ops Q rest (a.put o.dst v') w') : wpList Try.prog ops Q (o :: rest) a w := by
  obtain ⟨i0, hi, hz0, hz1, hz2⟩ := info_parts info3
  rcases A with _ | ad
  · obtain rfl : news = [] := by
      rcases hr with h | ⟨b, off, h, _⟩
      · exact h
      · cases h
    obtain rfl : m = 0 := by simpa using hlen.symm
    obtain rfl := hc rfl
    refine wpList_append_own_none hgd s x 22 ho base 3 i0 1 Try.underlying22 hi v n xs hs hown hx ?_
    refine h v w ?_ (World.grownBy.refl w _)
    simpa using hown
  · refine wpList_append_own w hgd s x 22 ho base 3 i0 (.int .i64 0) 1 8 Try.underlying22 hi hz0 hz1 hz2 rfl (by decide) v n xs hs hown ad m c news hx (by omega) ?_ h1 (by unfold maxLen; omega) hb hbase (fun v' w' h2 h3 _ => h v' w' h2 h3)
    rcases hr with rfl | ⟨b, off, e, _, hcell⟩
    · intro j u hu; simp at hu
    · cases e
      intro j u hu
      have ha : (⟨b, off, none⟩ : Addr).add j = ⟨b, off + j, none⟩ := by unfold Addr.add; split <;> simp_all
      rw [ha]
      exact hcell j u hu
theorem own_below {w w' : World} {base : Nat} {e : TypeId} {size n : Nat} {v : Value} {xs : List Value} (h : w.ownsRow base e size v n xs) (hb : Below w.heap.size w w') : w'.ownsRow base e size v n xs :=
  h.kept (grown_of_below hb none) (by cases v.ownBlock <;> simp)
theorem own_none {w : World} {base : Nat} {e : TypeId} {A : Option Addr} {n c : Nat} {xs : List Value} (h : w.ownsRow base e 1 (.slice A n c) n xs) : A = none → c = 0 := by
  rintro rfl
  rcases h.2 with ⟨h, _⟩ | ⟨g, cap, cur, h, _⟩
  · simp at h; exact h.2
  · cases h

/-- Bits are stored where the result lies. -/
theorem gv_store {w w1 : World} {L : List Bool} {A : Option Addr} {c r : Nat} (R1 : Rd w1 w1.heap.size A (pack L)) (hr : w.heap.size ≤ r) (hrb : w1.heap[r]? = some (.cells #[.int .i64 0, .slice none 0 0] 25 (0, 0))) (hlow : Below w.heap.size w w1) :
    (w1.cell? ⟨r, 0, none⟩ = some (.int .i64 0) ∧ w1.cell? ⟨r, 1, none⟩ = some (.slice none 0 0) ∧ w1.frozen? ⟨r, 0, none⟩ = false ∧ w1.frozen? ⟨r, 1, none⟩ = false) ∧
    Hid (Gave w L 0 (.returned (.tuple #[.agg #[.int .i64 (L.length : Int), .slice A (pack L).length c], .int .i64 0])) ((w1.setCell ⟨r, 0, none⟩ (.int .i64 (L.length : Int))).setCell ⟨r, 1, none⟩ (.slice A (pack L).length c))) := by
  refine ⟨blk_cells hrb, A, c, rfl, ?_, (hlow.setCell (p := ⟨r, 0, none⟩) hr _).setCell (p := ⟨r, 1, none⟩) hr _⟩
  have r1 := R1.setK (i := 0) (.int .i64 (L.length : Int)) hrb
  have hr2 : (w1.setCell ⟨r, 0, none⟩ (.int .i64 (L.length : Int))).heap[r]? = some (.cells #[.int .i64 (L.length : Int), .slice none 0 0] 25 (0, 0)) := by
    rw [heap_set_same _ _ _ _ 25 _ hrb]; simp
  have r2 := r1.setK (i := 1) (.slice A (pack L).length c) hr2
  have e : ((w1.setCell ⟨r, 0, none⟩ (.int .i64 (L.length : Int))).setCell ⟨r, 1, none⟩ (.slice A (pack L).length c)).heap.size = w1.heap.size := by simp [World.setCell]
  show Rd _ _ A (pack L)
  rw [e]
  exact r2

/-- BitsCheck, called at the beginning. -/
theorem rcheck_begun (len : Int) (A : Option Addr) (c : Nat) (bs : List Nat) (w : World) (hb : ∀ b ∈ bs, b < 256) (h : Rd w w.heap.size A bs) (e0 : Int) (he : chk len bs = e0) :
    Calls Try.prog 61 #[.agg #[.int .i64 len, .slice A bs.length c]] ((w.alloc (.cells #[.int .i64 len, .slice A bs.length c] 25)).alloc (.cells #[.int .i64 0, .slice none 0 0] 25)) fun e w' => e = .returned (.int .i64 e0) ∧ Below (w.heap.size + 2) ((w.alloc (.cells #[.int .i64 len, .slice A bs.length c] 25)).alloc (.cells #[.int .i64 0, .slice none 0 0] 25)) w' := by
  have := rcheck_any len A c bs hb (begun w len A bs.length c) (h.below (begun_below w len A bs.length c) (by rw [begun_size]; omega))
  rw [begun_size, he] at this
  exact this

theorem rcheck_one (len : Int) (A : Option Addr) (c : Nat) (bs : List Nat) (w : World) (hb : ∀ b ∈ bs, b < 256) (h : Rd w w.heap.size A bs) (e0 : Int) (he : chk len bs = e0) :
    Calls Try.prog 61 #[.agg #[.int .i64 len, .slice A bs.length c]] (w.alloc (.cells #[.int .i64 len, .slice A bs.length c] 25)) fun e w' => e = .returned (.int .i64 e0) ∧ Below (w.heap.size + 1) (w.alloc (.cells #[.int .i64 len, .slice A bs.length c] 25)) w' := by
  have := rcheck_any len A c bs hb (w.alloc (.cells #[.int .i64 len, .slice A bs.length c] 25)) (h.on (one_below w _))
  rw [World.size_alloc, he] at this
  exact this

theorem RdV.cut {w : World} {B : Nat} {A : Option Addr} {vs : List Value} (h : RdV w B A vs) (p k : Nat) : RdV w B (A.map (·.add p)) ((vs.drop p).take k) := by
  rcases h with rfl | ⟨b, off, rfl, hb, hc⟩
  · left; simp
  · have ha : (⟨b, off, none⟩ : Addr).add p = ⟨b, off + p, none⟩ := by unfold Addr.add; split <;> simp_all
    refine .inr ⟨b, off + p, by rw [Option.map_some, ha], hb, fun i v hi => ?_⟩
    rw [List.getElem?_take] at hi
    split at hi
    · rw [List.getElem?_drop] at hi
      rw [Nat.add_assoc]
      exact hc (p + i) v hi
    · cases hi
theorem ic_cut (l : List Bool) (p k : Nat) : ic ((l.drop p).take k) = ((ic l).drop p).take k := by simp [ic, List.map_take, List.map_drop]

theorem own_cap {w : World} {base : Nat} {e : TypeId} {A : Option Addr} {n c : Nat} {xs : List Value} (h : w.ownsRow base e 1 (.slice A n c) n xs) : n ≤ c := by
  rcases h.2 with ⟨h, h2⟩ | ⟨g, cap, cur, h, _, _, h2, _⟩
  · omega
  · simp only [Value.slice.injEq] at h; omega

/-- app3, at a step of a region that draws its order. -/
theorem app3s {w : World} {ops : Array Oper} {o : Oper} {a : Act} {K : Act → World → Prop} {Q : Exit → Act → World → Prop} {E : Prop} (hgd : o.guard = none) (s x : Operand)
    (ho : o.op = .call { callee := .builtin .append, args := #[s, x], argTypes := #[22, 22] }) (base : Nat)
    (v : Value) (n : Nat) (xs : List Value) (hs : a.eval s = v) (hown : w.ownsRow base 3 1 v n xs)
    (A : Option Addr) (m c : Nat) (news : List Value) (hx : a.eval x = .slice A m c) (hr : RdV w w.heap.size A news) (hlen : news.length = m) (h1 : ∀ u ∈ news, u.oneCell' = true) (hc : A = none → c = 0)
    (hb : (n + m) * 8 ≤ 140737488355328) (hbase : base ≤ w.heap.size)
    (h : ∀ v' w', w'.ownsRow base 3 1 v' (n + m) (xs ++ news) → w.grownBy w' v.ownBlock → K (a.put o.dst v') w') : if Region.wanted o (yielded ops a.tmps) = true then Oper.wp Try.prog o a w K Q else E := by
  have hw : Region.wanted o (yielded ops a.tmps) = true := by simp [Region.wanted, hgd]
  rw [if_pos hw]
  obtain ⟨i0, hi, hz0, hz1, hz2⟩ := info_parts info3
  have key : ∃ v' w', (Builtin.append_ #[22, 22] o.type #[v, .slice A m c]).run Try.prog w = .ok v' w' ∧ w'.ownsRow base 3 1 v' (n + m) (xs ++ news) ∧ w.grownBy w' v.ownBlock := by
    rcases A with _ | ad
    · obtain rfl : news = [] := by
        rcases hr with h | ⟨b, off, h, _⟩
        · exact h
        · cases h
      obtain rfl : m = 0 := by simpa using hlen.symm
      obtain rfl := hc rfl
      exact ⟨v, w, run_append_owned_none (P := Try.prog) (w := w) base 22 o.type 3 i0 1 Try.underlying22 hi v n xs hown, by simpa using hown, World.grownBy.refl w _⟩
    · have hcells : ∀ j u, news[j]? = some u → w.cell? (ad.add j) = some u := by
        rcases hr with rfl | ⟨b, off, e, _, hcell⟩
        · intro j u hu; simp at hu
        · cases e
          intro j u hu
          have ha : (⟨b, off, none⟩ : Addr).add j = ⟨b, off + j, none⟩ := by unfold Addr.add; split <;> simp_all
          rw [ha]
          exact hcell j u hu
      obtain ⟨v', w', hrun, h2, h3, _⟩ := run_append_own (P := Try.prog) w base 22 o.type 3 i0 (.int .i64 0) 1 8 Try.underlying22 hi hz0 hz1 hz2 rfl (by decide) v n xs hown ad m c news (by omega) hcells h1 (by unfold maxLen; omega) hb hbase
      exact ⟨v', w', hrun, h2, h3⟩
  obtain ⟨v', w', hrun, h2, h3⟩ := key
  unfold Oper.wp execOp
  simp only [ho, resolve, invoke, builtin, Sem.run_bind, Sem.run_pure, Result.andThen_ok, List.map_toArray, List.map_cons, List.map_nil, hs, hx, hrun]
  exact h v' w' h2 h3

theorem own_drew {w : World} {base : Nat} {e : TypeId} {size n : Nat} {v : Value} {xs : List Value} (h : w.ownsRow base e size v n xs) : w.drew.ownsRow base e size v n xs := h
theorem rdv_drew {w : World} {A : Option Addr} {xs : List Value} (h : RdV w w.heap.size A xs) : RdV w.drew w.drew.heap.size A xs := h
theorem listed_drew {w : World} {l : List Bool} {e : Ending} {w' : World} (h : Listed w.drew l e w') : ∃ A c, e = .returned (.slice A l.length c) ∧ w'.ownsRow w.heap.size 3 1 (.slice A l.length c) l.length (ic l) ∧ Below w.heap.size w w' := by
  obtain ⟨A, c, h1, h2, h3⟩ := h
  exact ⟨A, c, h1, h2, ((Below.refl _ w).drew).trans h3⟩
theorem join_grown {B : Nat} {w2 w4 w5 : World} {base : Nat} {A : Option Addr} {n c : Nat} {xs : List Value} (hk4 : Below B w2 w4) (hB : B ≤ base) (hB4 : B ≤ w4.heap.size) (ho : w4.ownsRow base 3 1 (.slice A n c) n xs) (hg : w4.grownBy w5 (Value.slice A n c).ownBlock) : Below B w2 w5 :=
  hk4.grown hg hB4 (fun j hj => Nat.le_trans hB (ho.lt j hj).1)
end

section
set_option maxRecDepth 100000
set_option linter.unusedVariables false
open Go.RowKit Go.Shelf Go.Lib

theorem cell_atC {w : World} {W : Nat} {t : TypeId} {cs : Array Value} (h : w.heap[W]? = some (.cells cs t (0, 0))) (i : Nat) : w.cell? ⟨W, i, none⟩ = cs[i]? := by simp [World.cell?, h]
theorem grown_lowC {w w' : World} {B : Nat} {v : Value} {n k : Nat} {T : TypeId} {xs : List Value} (h : w.grownBy w' v.ownBlock) (ho : w.ownsRow B T k v n xs) (hB : B ≤ w.heap.size) : Below B w w' := by
  refine ⟨h.os, h.tape, h.output, h.size, fun j hj => h.block j (by omega) ?_⟩
  intro e
  rcases ho.2 with ⟨rfl, _⟩ | ⟨g, cap, cur, rfl, hb, _⟩
  · simp [Value.ownBlock] at e
  · simp only [Value.ownBlock, Option.some.injEq] at e
    omega
theorem ns_append (a b : List Nat) : ns (a ++ b) = ns a ++ ns b := by simp [ns]

set_option maxHeartbeats 4000000 in
theorem grow_nil (n : Nat) (hn : n ≤ 1000000) (w : World) :
    Calls Try.prog 128 #[.slice none 0 0, .int .i64 (n : Int)] w fun e w' => ∃ A c, e = .returned (.slice A 0 c) ∧ w'.ownsRow w.heap.size 3 1 (.slice A 0 c) 0 [] ∧ Below w.heap.size w w' := by
  obtain ⟨i0, hi, hz0, hz1, hz2⟩ := info_parts info3
  have h1 : decide ((n : Int) < 0) = false := by simp
  have h3 : IntKind.i64.wrap ((n : Int) - 0) = (n : Int) := by rw [Int.sub_zero]; exact IntWalk.i64_in _ (by omega)
  by_cases h0 : n = 0
  · subst h0
    go_enter Try.func128, Try.ntmps128
    go_wp2
    go_ret
    exact ⟨none, 0, rfl, ⟨rfl, .inl ⟨rfl, rfl⟩⟩, Below.refl _ _⟩
  · have h4 : decide (0 < (n : Int)) = true := by simp; omega
    have h5 : decide ((n : Int) > 0) = true := by simp; omega
    have h6 : (0 : Int) < (n : Int) := by omega
    have h7 : ¬ ((n : Int) < 0) := by omega
    have hold : (Builtin.firstCells i0.size 0 (.slice none 0 0)).run Try.prog w.drew = .ok ([] : List Value).toArray w.drew := run_firstCells_none w.drew i0.size 0 0 0
    have hrz : ∀ ty, (Builtin.append_ #[22, 3] ty #[.slice none 0 0, .int .i64 (n : Int)]).run Try.prog w =
        .ok (.slice (some ⟨w.heap.size, 0, none⟩) n (grownCap w n 0 3)) (w.drew.alloc (.cells ((([] : List Value).toArray ++ Builtin.zeroCells (Value.int .i64 0).cells n) ++ Builtin.zeroCells (Value.int .i64 0).cells (grownCap w n 0 3 - n)) 3)) := fun ty => by
      have h := Lib.run_append_grow_zeros w 22 3 ty 3 i0 (.int .i64 0) .i64 .i64 Try.underlying22 Try.underlying3 hi hz0 none 0 0 [] hold n (by omega) (by omega) (by omega) (by omega)
        (by rw [hz2]; omega) (by rw [Nat.zero_add]; exact growslice_fits (by omega) (by rw [hz2]; omega))
      rw [Nat.zero_add] at h
      exact h
    have hGn : n ≤ grownCap w n 0 3 := grownCap_ge w _ _ _
    have hGm : grownCap w n 0 3 ≤ maxLen := grownCap_le_maxLen w n 0 3 (by unfold maxLen; omega)
    obtain ⟨G, hG⟩ : ∃ G, G = grownCap w n 0 3 := ⟨_, rfl⟩
    rw [← hG] at hrz hGn hGm
    have hG63 : G ≤ 9223372036854775807 := by unfold maxLen at hGm; omega
    obtain ⟨cs, hcs⟩ : ∃ cs, cs = (([] : List Value).toArray ++ Builtin.zeroCells (Value.int .i64 0).cells n) ++ Builtin.zeroCells (Value.int .i64 0).cells (G - n) := ⟨_, rfl⟩
    have hsz : cs.size = G * 1 := by
      rw [hcs]; simp [Builtin.zeroCells, Value.cells]; omega
    rw [← hcs] at hrz
    have HO : Hid ((w.drew.alloc (.cells cs 3)).ownsRow w.heap.size 3 1 (.slice (some ⟨w.heap.size, 0, none⟩) 0 G) 0 [] ∧ Below w.heap.size w (w.drew.alloc (.cells cs 3))) :=
      ⟨⟨rfl, .inr ⟨w.heap.size, G, cs, rfl, Nat.le_refl _, World.alloc_heap_new w.drew (.cells cs 3), Nat.zero_le _, hGm, hsz, by simp⟩⟩, ((Below.refl w.heap.size w).drew).alloc (Nat.le_refl _) _⟩
    clear hold hG hcs hsz
    go_enter Try.func128, Try.ntmps128
    go_wp2_with (at_builtin; refine Lib.wpList_append_run _ rfl _ _ _ _ rfl _ _ rfl rfl _ _ (hrz _) ?_)
    all_goals (go_ret; exact ⟨_, _, rfl, HO.out.1, HO.out.2⟩)
theorem add_plU (b off k : Nat) : (⟨b, off, none⟩ : Addr).add k = ⟨b, off + k, none⟩ := by unfold Addr.add; split <;> simp_all
theorem rdv_newsU {w : World} {B : Nat} {a : Addr} {vs : List Value} (h : RdV w B (some a) vs) : ∀ j u, vs[j]? = some u → w.cell? (a.add j) = some u := by
  intro j u hu
  obtain ⟨b, off, e, hb, hc⟩ := h.at_ hu
  cases e
  rw [add_plU]; exact hc
theorem own_zero {w : World} {base n c : Nat} {e : TypeId} {xs : List Value} (h : w.ownsRow base e 1 (.slice none n c) n xs) : n = 0 := by
  rcases h.2 with ⟨h, h0⟩ | ⟨g, cap, cur, h, _⟩
  · exact h0
  · simp at h
theorem rdv_none_nil {w : World} {B : Nat} {l : List Nat} (h : RdV w B none (zc (ns l))) : l = [] := by
  rcases h with h | ⟨b, off, h, _⟩
  · cases l with
    | nil => rfl
    | cons x t => simp [zc, ns] at h
  · cases h
/-- At each round's head: so many are counted. -/
def SzRel (n1 n2 : Nat) (p s : Value) : Prop := (p = .int .i64 0 ∧ s = .int .i64 0) ∨ (p = .int .i64 1 ∧ s = .int .i64 (n1 : Int)) ∨ (p = .int .i64 2 ∧ s = .int .i64 ((n1 + n2 : Nat) : Int))
/-- At each round's head: so many lists are in the row. -/
def CtRel (l1 l2 : List Nat) (w : World) (v p : Value) (wr : World) : Prop :=
  ∃ (i : Nat) (l : List Nat), ((i = 0 ∧ l = []) ∨ (i = 1 ∧ l = l1) ∨ (i = 2 ∧ l = l1 ++ l2)) ∧ p = .int .i64 (i : Int) ∧ wr.ownsRow w.heap.size 3 1 v l.length (zc (ns l)) ∧ Below w.heap.size w wr
set_option maxHeartbeats 8000000 in
theorem concat_two (l1 l2 : List Nat) (n1 n2 : Nat) (hn1 : l1.length = n1) (hn2 : l2.length = n2) (h1 : n1 ≤ 100000) (h2 : n2 ≤ 100000) (A1 A2 : Option Addr) (c1 c2 : Nat) (hA1 : A1 = none → c1 = 0) (hA2 : A2 = none → c2 = 0) (S : Nat) (w : World)
    (hS : w.heap[S]? = some (.cells #[.slice A1 n1 c1, .slice A2 n2 c2] 22 (0, 0))) (r1 : RdV w w.heap.size A1 (zc (ns l1))) (r2 : RdV w w.heap.size A2 (zc (ns l2))) :
    Calls Try.prog 109 #[.slice (some ⟨S, 0, none⟩) 2 2] w fun e w' => ∃ A c, e = .returned (.slice A (n1 + n2) c) ∧ w'.ownsRow w.heap.size 3 1 (.slice A (n1 + n2) c) (n1 + n2) (zc (ns (l1 ++ l2))) ∧ Below w.heap.size w w' := by
  obtain ⟨i0, hi, hz0, hz1, hz2⟩ := info_parts info3
  have hSw : S < w.heap.size := (Array.getElem?_eq_some_iff.1 hS).1
  have HX1 := Lib.hid r1; have HX2 := Lib.hid r2; have HN1 := Lib.hid hn1; have HN2 := Lib.hid hn2
  have HG := Lib.hid (grow_nil (n1 + n2) (by omega))
  have k0 : w.cell? ⟨S, 0, none⟩ = some (.slice A1 n1 c1) := by rw [cell_atC hS]; rfl
  have k1 : w.cell? ⟨S, 1, none⟩ = some (.slice A2 n2 c2) := by rw [cell_atC hS]; rfl
  have HK : Hid (∀ V, Below w.heap.size w V → V.cell? ⟨S, 0, none⟩ = some (.slice A1 n1 c1) ∧ V.cell? ⟨S, 1, none⟩ = some (.slice A2 n2 c2)) := fun V hV => ⟨(hV.cell (p := ⟨S, 0, none⟩) hSw).trans k0, (hV.cell (p := ⟨S, 1, none⟩) hSw).trans k1⟩
  clear r1 r2 hn1 hn2 hS
  go_enter Try.func109, Try.ntmps109
  go_wp2
  go_loopw [3, 11] (fun s p wr => SzRel n1 n2 p s ∧ wr = w) (fun _ p _ => 2 - (intOf p).toNat)
  case atStart => exact ⟨.inl ⟨rfl, rfl⟩, rfl⟩
  case round =>
    obtain ⟨hsz, hw⟩ := hrel
    have hw2 := hw.symm
    subst hw2
    clear hw
    rcases hsz with ⟨rfl, rfl⟩ | ⟨rfl, rfl⟩ | ⟨rfl, rfl⟩
    · have t1 : IntKind.i64.wrap (0 + (n1 : Int)) = (n1 : Int) := by rw [Int.zero_add]; exact IntWalk.i64_in _ (by omega)
      have t2 : decide ((n1 : Int) < 0) = false := by simp
      go_wp2
      go_roundw
      case rel => exact ⟨.inr (.inl ⟨rfl, rfl⟩), by trivial⟩
      case measure => simp [intOf]
    · have t1 : IntKind.i64.wrap ((n1 : Int) + (n2 : Int)) = ((n1 + n2 : Nat) : Int) := by rw [← Int.natCast_add]; exact IntWalk.i64_in _ (by omega)
      have t2 : decide (((n1 + n2 : Nat) : Int) < 0) = false := by simp; omega
      go_wp2
      go_roundw
      case rel => exact ⟨.inr (.inr ⟨rfl, by go_num⟩), by trivial⟩
      case measure => simp [intOf]
    · clear k0 k1
      go_wp2_with fail
      refine (HG.out w).mono ?_
      rintro e w1 ⟨Av, cv, rfl, hrow, hbel⟩
      have HR := Lib.hid hrow; have HB := Lib.hid hbel
      clear hrow hbel HG
      go_wp2
      go_loopw [6, 27] (fun v p V => CtRel l1 l2 w v p V) (fun _ p _ => 2 - (intOf p).toNat)
      case atStart => exact ⟨0, [], .inl ⟨rfl, rfl⟩, rfl, HR.out, HB.out⟩
      case round =>
        obtain ⟨i, l, hcase, rfl, hrow, hbel⟩ := hrel
        rcases hcase with ⟨rfl, rfl⟩ | ⟨rfl, rfl⟩ | ⟨rfl, rfl⟩
        · obtain ⟨k0, k1⟩ := HK.out _ hbel
          obtain ⟨Av2, cv2, rfl⟩ := own_slice3 hrow
          simp only [List.length_nil] at hrow
          have hX := HX1.out.on hbel
          have HB0 := Lib.hid hbel
          clear hbel HR HB
          cases A1 with
          | none =>
            have hc := hA1 rfl
            have hl0 := rdv_none_nil hX
            subst hc
            obtain rfl : n1 = 0 := by rw [← HN1.out, hl0]; rfl
            have HL0 := Lib.hid hl0
            clear hl0
            clear hX
            go_wp2_with (at_builtin; refine wpList_append_own_none rfl _ _ 22 rfl w.heap.size 3 i0 1 Try.underlying22 hi _ _ _ rfl hrow rfl ?_)
            all_goals (
              go_roundw
              case rel => first | exact ⟨1, l1, .inr (.inl ⟨rfl, rfl⟩), rfl, by rw [HL0.out]; exact hrow, HB0.out⟩ | exact ⟨_, _, _, ⟨1, l1, .inr (.inl ⟨rfl, rfl⟩), rfl, by rw [HL0.out]; exact hrow, HB0.out⟩, rfl, rfl, rfl⟩
              case measure => simp [intOf])
          | some a =>
            have HNw := Lib.hid (rdv_newsU hX)
            have HLz : Hid ((zc (ns l1)).length = n1 * 1) := by show _ = _; rw [zc_length, ns_length, HN1.out, Nat.mul_one]
            have HOn := Lib.hid (zc_one (ns l1))
            clear hX
            go_wp2_with (at_builtin; refine wpList_append_own _ rfl _ _ 22 rfl w.heap.size 3 i0 (.int .i64 0) 1 8 Try.underlying22 hi hz0 hz1 hz2 rfl (by decide) _ _ _ rfl hrow a n1 c1 (zc (ns l1)) rfl HLz.out HNw.out HOn.out (by unfold maxLen; omega) (by omega) HB0.out.size ?_; intro v' w3 hown' hgrow _; obtain ⟨Av', cv', rfl⟩ := own_slice3 hown')
            have HO : Hid (w3.ownsRow w.heap.size 3 1 (.slice Av' (0 + n1) cv') l1.length (zc (ns l1))) := by
              show World.ownsRow _ _ _ _ _ _ _
              rw [HN1.out]
              have := hown'
              simpa [zc, ns] using this
            have HB : Hid (Below w.heap.size w w3) := HB0.out.trans (grown_lowC hgrow hrow HB0.out.size)
            clear hown' hgrow hrow HB0 k0 k1
            go_wp2
            go_roundw
            case rel => exact ⟨1, l1, .inr (.inl ⟨rfl, rfl⟩), rfl, by first | exact HO.out | simpa using HO.out, HB.out⟩
            case measure => simp [intOf]
        · obtain ⟨k0, k1⟩ := HK.out _ hbel
          obtain ⟨Av2, cv2, rfl⟩ := own_slice3 hrow
          have hX := HX2.out.on hbel
          have HB0 := Lib.hid hbel
          have HLen : Hid ((l ++ l2).length = n1 + n2) := by show _ = _; rw [List.length_append, HN1.out, HN2.out]
          generalize hk : l.length = k at *
          have HKk := Lib.hid hk
          have hkn : Hid (k = n1) := HN1.out
          have hk1 : k ≤ 100000 := by have := hkn.out; omega
          clear hk hbel HR HB
          cases A2 with
          | none =>
            have hc := hA2 rfl
            have hl0 := rdv_none_nil hX
            subst hc
            obtain rfl : n2 = 0 := by rw [← HN2.out, hl0]; rfl
            have HL0 := Lib.hid hl0
            clear hl0
            clear hX
            go_wp2_with (at_builtin; refine wpList_append_own_none rfl _ _ 22 rfl w.heap.size 3 i0 1 Try.underlying22 hi _ _ _ rfl hrow rfl ?_)
            all_goals (
              go_roundw
              case rel => first | exact ⟨2, l ++ l2, .inr (.inr ⟨rfl, rfl⟩), rfl, by rw [HL0.out, List.append_nil, HKk.out]; exact hrow, HB0.out⟩ | exact ⟨_, _, _, ⟨2, l ++ l2, .inr (.inr ⟨rfl, rfl⟩), rfl, by rw [HL0.out, List.append_nil, HKk.out]; exact hrow, HB0.out⟩, rfl, rfl, rfl⟩
              case measure => simp [intOf])
          | some a =>
            have HNw := Lib.hid (rdv_newsU hX)
            have HLz : Hid ((zc (ns l2)).length = n2 * 1) := by show _ = _; rw [zc_length, ns_length, HN2.out, Nat.mul_one]
            have HOn := Lib.hid (zc_one (ns l2))
            clear hX
            go_wp2_with (at_builtin; refine wpList_append_own _ rfl _ _ 22 rfl w.heap.size 3 i0 (.int .i64 0) 1 8 Try.underlying22 hi hz0 hz1 hz2 rfl (by decide) _ _ _ rfl hrow a n2 c2 (zc (ns l2)) rfl HLz.out HNw.out HOn.out (by unfold maxLen; omega) (by omega) HB0.out.size ?_; intro v' w3 hown' hgrow _; obtain ⟨Av', cv', rfl⟩ := own_slice3 hown')
            have HO : Hid (w3.ownsRow w.heap.size 3 1 (.slice Av' (k + n2) cv') (l ++ l2).length (zc (ns (l ++ l2)))) := by
              show World.ownsRow _ _ _ _ _ _ _
              rw [HLen.out, ns_append, zc_append, ← hkn.out]; exact hown'
            have HB : Hid (Below w.heap.size w w3) := HB0.out.trans (grown_lowC hgrow hrow HB0.out.size)
            clear hown' hgrow hrow HB0 k0 k1
            go_wp2
            go_roundw
            case rel => exact ⟨2, l ++ l2, .inr (.inr ⟨rfl, rfl⟩), rfl, HO.out, HB.out⟩
            case measure => simp [intOf]
        · have hl : (l1 ++ l2).length = n1 + n2 := by rw [List.length_append, HN1.out, HN2.out]
          rw [hl] at hrow
          obtain ⟨Av2, cv2, rfl⟩ := own_slice3 hrow
          have HR2 := Lib.hid hrow; have HB2 := Lib.hid hbel
          clear hrow hbel HR HB
          go_wp2
          go_ret
          exact ⟨_, _, rfl, HR2.out, HB2.out⟩
end
end Go.Proofs.Ytndiocehkdbjkaa
