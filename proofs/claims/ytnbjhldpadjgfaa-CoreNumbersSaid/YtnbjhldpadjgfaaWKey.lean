/- The arcs of a set are visited, in whatever order. -/
import Derived.Test.YtnbjhldpadjgfaaWSet
import Derived.Test.YtnbjhldpadjgfaaWSeq
import Derived.Sort.MapsRangeIn
namespace Go.Proofs.Ytnbjhldpadjgfaa
set_option maxRecDepth 100000
set_option linter.unusedVariables false
open Go.RowKit Go.Shelf
open Go.Maps (Keyed IsMap Tidy)

attribute [local go_sem] Oper.semAt_some

/-- A visit of a set under way: so many have come. -/
structure ARng (w : World) (b r n : Nat) (S done : List Ar) : Prop where
  sm : ∀ a ∈ S, SmA a
  nd : S.Nodup
  dn : done.Nodup
  sub : ∀ a ∈ done, a ∈ S
  rng : ∃ (D : DataW Unit) (left : Lit → Bool) (cnt : Nat), w.ranges Try.prog 36 (plainElem Try.prog 4) b r n D left cnt ∧ (∀ a ∈ S, ∀ z, D.atKey (klA a) z = .lit (.bool true)) ∧ (∀ kl, left kl = true ↔ ∃ a ∈ S, a ∉ done ∧ kl = klA a)
theorem ARng.walks {w w' : World} {b r n : Nat} {S done : List Ar} (h : ARng w b r n S done) (hk : KeepsWalks w w') : ARng w' b r n S done :=
  ⟨h.sm, h.nd, h.dn, h.sub, by obtain ⟨D, left, cnt, h1, h2, h3⟩ := h.rng; exact ⟨D, left, cnt, h1.of_walks hk, h2, h3⟩⟩
theorem ARng.left_same {w w' : World} {b r n : Nat} {S done : List Ar} (h : ARng w b r n S done) (hk : KeepsWalks w w') : w'.rangeLeft b r = w.rangeLeft b r := by
  obtain ⟨D, left, cnt, h1, h2, h3⟩ := h.rng
  rw [h1.left_eq, (h1.of_walks hk).left_eq]
theorem ARng.iter {w : World} {b r n : Nat} {S done : List Ar} (h : ARng w b r n S done) : ∃ o : Obj, w.heap[r]? = some o ∧ o.isWalk = true := by
  obtain ⟨D, left, cnt, h1, h2, h3⟩ := h.rng
  exact h1.iter_walk
theorem ASet.start {w w' : World} {b n r : Nat} {S : List Ar} (h : ASet w b n S) {D : DataW Unit} (hr : w'.ranges Try.prog 36 (plainElem Try.prog 4) b r n D (Maps.has D) (Maps.size D)) (h2 : ∀ kl, Maps.has D kl = true ↔ ∃ a ∈ S, kl = klA a) (h3 : ∀ a ∈ S, ∀ z, D.atKey (klA a) z = .lit (.bool true)) : ARng w' b r n S [] :=
  ⟨h.sm, h.nd, by simp, by simp, D, _, _, hr, h3, fun kl => by rw [h2 kl]; simp⟩
theorem sameKey_iff {a b : Lit} (ha : WideAt.IsKeyLit a) : a.sameKey b = true ↔ a = b :=
  ⟨fun h => WideAt.sameKey_eq h, fun h => by rw [← h]; exact WideAt.sameKey_self ha⟩
theorem nodup_sub_len : ∀ {a b : List Ar}, a.Nodup → (∀ x ∈ a, x ∈ b) → a.length ≤ b.length
  | [], b, _, _ => by simp
  | x :: t, b, hn, hs => by
    obtain ⟨h1, h2⟩ := List.nodup_cons.1 hn
    have hx := hs x (by simp)
    have := nodup_sub_len (b := b.erase x) h2 (fun y hy => (List.mem_erase_of_ne (fun e => h1 (by rw [← e]; exact hy))).2 (hs y (by simp [hy])))
    rw [List.length_erase_of_mem hx] at this
    have := List.length_pos_of_mem hx
    rw [List.length_cons]; omega
/-- An arc that has come, and what is said of it. -/
structure ArC where
  x : Ar
  c : Bool
section
variable {F : Fence} {nF : Nat} (w : World) {ops : Array Oper} {rest : List Oper} {o : Oper} {a : Act} {Q : Exit → Act → World → Prop}
theorem next_arcs (hg : o.guard = none) (it : Operand) (hop : o.op = Op.next it false) (b r n : Nat) (S done : List Ar) (hit : a.eval it = .pointer (some ⟨r, 0, none⟩)) (h : ARng w b r n S done)
    (hDone : done.Perm S → wpListIn F nF Try.prog ops Q rest (a.put o.dst (.tuple #[.bool false])) w)
    (hMore : ∀ (p : ArC) (w' : World), p.x ∈ S → ARng w' b r n S (done ++ [p.x]) → w'.rangeLeft b r < w.rangeLeft b r → w.grownBy w' (some r) → (Instr.entry (.pointer (some ⟨r, 0, none⟩))).run Try.prog w' = .ok (.tuple #[.agg #[.int .i64 (p.x.1 : Int), .int .i64 (p.x.2 : Int)], .bool p.c]) w' → wpListIn F nF Try.prog ops Q rest (a.put o.dst (.tuple #[.bool true, .agg #[.int .i64 (p.x.1 : Int), .int .i64 (p.x.2 : Int)], .bool p.c])) w') :
    wpListIn F nF Try.prog ops Q (o :: rest) a w := by
  refine wpListIn_plain hg fun K' hK' => ?_
  unfold Oper.wpIn
  refine ⟨by simp [Oper.about, hop], ?_⟩
  rw [Oper.semAt_plain F _ _ (by rw [hop]; intro c hc'; cases hc')]
  obtain ⟨D, left, cnt, h1, h2, h3⟩ := h.rng
  rcases h1.next arc_law o.type with ⟨h0, hl, hrun⟩ | ⟨key, v, kl, y, w', cnt', hkey, hlk, hv, hat, hrun, hrg, hlt, hgr, hsz, hen⟩
  · simp [execOp, hop, hit, hrun, Result.andThen]
    refine hK' _ _ (hDone ((List.perm_ext_iff_of_nodup h.dn h.nd).2 fun x => ⟨h.sub x, fun hx => ?_⟩))
    by_cases hd : x ∈ done
    · exact hd
    · have := (h3 (klA x)).2 ⟨x, hx, hd, rfl⟩
      rw [hl] at this; cases this
  · obtain ⟨x, hx, hxd, rfl⟩ := (h3 kl).1 hlk
    obtain rfl : key = vA x := arc_law.inj hkey (key_arc x (h.sm x hx))
    have hvb : ∃ c, v = .bool c := by
      unfold plainElem at hv
      rw [Try.underlying4] at hv
      cases v <;> simp at hv
      exact ⟨_, rfl⟩
    obtain ⟨c, rfl⟩ := hvb
    simp [execOp, hop, hit, hrun, Result.andThen]
    refine hK' _ _ (hMore ⟨x, c⟩ w' hx ⟨h.sm, h.nd, ?_, ?_, D, _, _, hrg, h2, fun kl => ?_⟩ (by rw [h1.left_eq, hrg.left_eq]; exact hlt) hgr hen)
    · refine List.nodup_append.2 ⟨h.dn, by simp, ?_⟩
      rintro p hp q hq rfl; simp at hq; subst hq; exact hxd hp
    · intro p hp
      rcases List.mem_append.1 hp with q | q
      · exact h.sub p q
      · simp at q; subst q; exact hx
    · simp only [Bool.and_eq_true, Bool.not_eq_true', h3]
      constructor
      · rintro ⟨⟨p, hp, hpd, rfl⟩, hs⟩
        refine ⟨p, hp, fun hm => ?_, rfl⟩
        rcases List.mem_append.1 hm with q | q
        · exact hpd q
        · simp at q; subst q
          rw [(sameKey_iff (klA_key (h.sm p hp))).2 rfl] at hs; cases hs
      · rintro ⟨p, hp, hpd, rfl⟩
        refine ⟨⟨p, hp, fun hm => hpd (by simp [hm]), rfl⟩, ?_⟩
        rw [Bool.eq_false_iff]
        intro q
        have := klA_inj (h.sm p hp) (h.sm x hx) ((sameKey_iff (klA_key (h.sm p hp))).1 q)
        subst this; exact hpd (by simp)
end
set_option maxRecDepth 100000 in
set_option maxHeartbeats 2000000 in
theorem keys1_in (lp Bm b nn : Nat) (S : List Ar) (J Jx : List Ar → World → Prop) (W : World) (hJa : AbidesFrom W.heap.size J)
    (hY : ∀ pre x V, J pre V → pre.length < S.length → YieldAt Fence.wide 3 Try.prog lp (encC S x) V fun e V' =>
      (e = .returned (.bool true) ∧ J (pre ++ [x]) V' ∧ KeepsWalks V V') ∨ (e = .returned (.bool false) ∧ Jx (pre ++ [x]) V'))
    (hBm : W.cell? ⟨Bm, 0, none⟩ = some (.map (some b))) (hset : ASet W b nn S) (h0 : J [] W) :
    CallsIn Fence.wide 4 Try.prog 93 #[.func (.yield lp) #[] #[], .pointer (some ⟨Bm, 0, none⟩)] W fun e V => (∃ v, e = .returned v) ∧
      ((∃ ys, ys.Perm S ∧ J ys V) ∨ (∃ pre, True ∧ Jx pre V)) := by
  have HY := Lib.hid hY; clear hY
  have hbs := hset.lt
  obtain ⟨D, hown, hhas, hat, hsz⟩ := hset.own
  refine callsIn_of_wp Try.func93 rfl trivial ?_ rfl
  simp only [Try.ntmps93, List.size_toArray, List.length_cons, List.length_nil, Nat.reduceAdd, Nat.reduceSub, Array.replicate_succ, Array.replicate_zero, List.push_toArray, List.append_toArray, List.nil_append, List.cons_append]
  gi_wp2_with (first
    | (gi_at_range; refine wpListIn_range_own _ rfl _ 100 rfl 36 4 arc_law Try.underlying100 _ b nn _ rfl hown ?_; intro w0 hrg0 hg0 hs0)
    | gi_in)
  simp only [Act.put, List.setIfInBounds_toArray, List.set_cons_succ, List.set_cons_zero]
  have hst := hset.start hrg0 hhas hat
  have HJa := Lib.hid hJa
  clear hown hhas hat hsz hrg0 hset hJa
  have hJ0 : J [] w0 := HJa.out [] W w0 none h0 hg0 (fun r e => by cases e)
  have HW0 : Hid (W.heap.size + 1 = w0.heap.size) := by show _ = _; omega
  clear hg0 hs0
  gi_loopw [6] (fun _ wr => ∃ done, ARng wr b W.heap.size nn S done ∧ J done wr)
    (fun _ wr => wr.rangeLeft b W.heap.size)
  case atStart => exact ⟨[], hst, hJ0⟩
  case round =>
    obtain ⟨done, hrg, hJs⟩ := hrel
    gi_wp2_with (first
      | (gi_at_next; refine next_arcs _ rfl _ rfl b W.heap.size nn S done rfl hrg ?_ ?_)
      | gi_in)
    · intro hp
      gi_wp2
      go_end0
      exact ⟨⟨_, rfl⟩, .inl ⟨done, hp, hJs⟩⟩
    · rintro ⟨x, c⟩ w2 hx hrg2 hlt hg2 hen
      simp only at hx hrg2 hen
      have hJ2 : J done w2 := HJa.out done wr w2 (some W.heap.size) hJs hg2 (fun r e => by cases e; exact ⟨Nat.le_refl _, hrg.iter⟩)
      have hJ3 : J done (w2.alloc (.cells #[.int .i64 (x.1 : Int), .int .i64 (x.2 : Int)] 36)) := HJa.out done w2 _ none hJ2 (World.grownBy_alloc w2 _ none) (fun r e => by cases e)
      have hlen : done.length < S.length := by
        have := nodup_sub_len hrg2.dn hrg2.sub
        rw [List.length_append] at this; simp at this; omega
      have hY2 := HY.out done x _ hJ3 hlen
      unfold encC at hY2
      rw [clp_mem hx] at hY2
      have hwk : KeepsWalks w2 (w2.alloc (.cells #[.int .i64 (x.1 : Int), .int .i64 (x.2 : Int)] 36)) := KeepsWalks.alloc _ _
      have hlt3 : (w2.alloc (.cells #[.int .i64 (x.1 : Int), .int .i64 (x.2 : Int)] 36)).rangeLeft b W.heap.size < wr.rangeLeft b W.heap.size := by rw [hrg2.left_same hwk]; exact hlt
      have HRg := Lib.hid (⟨hrg2.walks hwk, hlt3⟩ : _ ∧ _)
      clear hJs hJ2 hJ3 hrg hrg2 hlt hg2 hwk hlt3
      obtain ⟨fn, tmps, assign, body, hy, hR⟩ := hY2
      dsimp only [encA] at hy
      gi_wp2
      refine hR.mono ?_
      rintro e W3 (⟨rfl, hJ3, hk3⟩ | ⟨rfl, hJx3⟩)
      · gi_wp2
        go_roundw
        case rel => exact ⟨done ++ [x], HRg.out.1.walks hk3, hJ3⟩
        case measure => rw [HRg.out.1.left_same hk3]; exact HRg.out.2
      · gi_wp2
        refine bodyPost_ret (results_none rfl _ _ _) rfl ?_
        exact ⟨⟨_, rfl⟩, .inr ⟨_, trivial, hJx3⟩⟩
/-- The visit, as a contract. -/
theorem keys_stops (Bm b nn : Nat) (S : List Ar) (w : World) (hBm : w.heap[Bm]? = some (.cells #[.map (some b)] 100 (0, 0))) (hset : ASet w b nn S) :
    SeqStopsK Fence.wide 4 Try.prog 93 #[.pointer (some ⟨Bm, 0, none⟩)] (encC S) KeepsWalks (fun ys => ys.Perm S) (fun _ => True) S.length w :=
  fun lp J Jx W hW hJ _ hY h0 => keys1_in lp Bm b nn S J Jx W hJ hY ((cell_at ((hW.block Bm (Array.getElem?_eq_some_iff.1 hBm).1).trans hBm) 0).trans rfl) (hset.below hW hset.lt) h0
set_option maxHeartbeats 1000000 in
/-- The maker of the visit. -/
theorem keys_in (b : Nat) (w : World) :
    Calls Try.prog 68 #[.map (some b)] w fun e w' => e = .returned (.func (.func 93) #[] #[.pointer (some ⟨w.heap.size, 0, none⟩)]) ∧ w' = w.alloc (.cells #[.map (some b)] 100) := by
  go_enter Try.func68, Try.ntmps68
  go_wp2
  go_ret
  exact ⟨rfl, rfl⟩
theorem entersKeys1 : ∀ args w, (callFunc 93 args).run Try.prog w = .ok (.enter 93 args) w := enters_of Try.func93 (by kernel_rfl) rfl
end Go.Proofs.Ytnbjhldpadjgfaa
