/- The graph that the laws ask about in any case. -/
import Derived.Test.YtnbjhldpadjgfaaWEnd
import Derived.Test.YtnbjhldpadjgfaaDJA
import Derived.Lib.AppendZerosOnto
import Derived.Laws.AppendOwnNone
namespace Go.Proofs.Ytnbjhldpadjgfaa

section
set_option maxRecDepth 100000
set_option linter.unusedVariables false
open Go.RowKit Go.Shelf

/-- That graph. -/
def sG : List (List Nat) := [[1, 2, 3, 5], [1, 2, 3, 5], [0, 1, 2, 3, 5], [], [4], [1, 2, 3]]
theorem sG_ok : GOk sG := ⟨by decide, by decide, by decide, by decide⟩
set_option maxHeartbeats 2000000 in
theorem someg_any (w : World) : Calls Try.prog 36 #[] w fun e w' => ∃ A R c, e = .returned (.agg #[.slice A 6 c]) ∧ gs R = sG.map ns ∧ RdG w' w'.heap.size A R ∧ Below w.heap.size w w' := by
  obtain ⟨V0, hV0⟩ : ∃ X, w.alloc (.cells #[.slice (some ⟨w.heap.size + 1 + 1 + 1 + 1 + 1 + 1, 0, none⟩) 6 6] 24) = X := ⟨_, rfl⟩
  have s0 : V0.heap.size = w.heap.size + 1 := by rw [← hV0]; exact World.size_alloc _ _
  have b0 : Below w.heap.size w V0 := hV0 ▸ one_below _ _
  obtain ⟨V1, hV1⟩ : ∃ X, V0.alloc (.cells #[.int .i64 1, .int .i64 2, .int .i64 3, .int .i64 5] 3) = X := ⟨_, rfl⟩
  have s1 : V1.heap.size = V0.heap.size + 1 := by rw [← hV1]; exact World.size_alloc _ _
  have b1 : Below V0.heap.size V0 V1 := hV1 ▸ one_below _ _
  have r1 : RdV V1 V1.heap.size (some ⟨V0.heap.size, 0, none⟩) (zc (ns [1, 2, 3, 5])) := hV1 ▸ rdz_new V0 [1, 2, 3, 5]
  obtain ⟨V2, hV2⟩ : ∃ X, V1.alloc (.cells #[.int .i64 1, .int .i64 2, .int .i64 3, .int .i64 5] 3) = X := ⟨_, rfl⟩
  have s2 : V2.heap.size = V1.heap.size + 1 := by rw [← hV2]; exact World.size_alloc _ _
  have b2 : Below V1.heap.size V1 V2 := hV2 ▸ one_below _ _
  have r2 : RdV V2 V2.heap.size (some ⟨V1.heap.size, 0, none⟩) (zc (ns [1, 2, 3, 5])) := hV2 ▸ rdz_new V1 [1, 2, 3, 5]
  obtain ⟨V3, hV3⟩ : ∃ X, V2.alloc (.cells #[.int .i64 0, .int .i64 1, .int .i64 2, .int .i64 3, .int .i64 5] 3) = X := ⟨_, rfl⟩
  have s3 : V3.heap.size = V2.heap.size + 1 := by rw [← hV3]; exact World.size_alloc _ _
  have b3 : Below V2.heap.size V2 V3 := hV3 ▸ one_below _ _
  have r3 : RdV V3 V3.heap.size (some ⟨V2.heap.size, 0, none⟩) (zc (ns [0, 1, 2, 3, 5])) := hV3 ▸ rdz_new V2 [0, 1, 2, 3, 5]
  obtain ⟨V4, hV4⟩ : ∃ X, V3.alloc (.cells #[.int .i64 4] 3) = X := ⟨_, rfl⟩
  have s4 : V4.heap.size = V3.heap.size + 1 := by rw [← hV4]; exact World.size_alloc _ _
  have b4 : Below V3.heap.size V3 V4 := hV4 ▸ one_below _ _
  have r4 : RdV V4 V4.heap.size (some ⟨V3.heap.size, 0, none⟩) (zc (ns [4])) := hV4 ▸ rdz_new V3 [4]
  obtain ⟨V5, hV5⟩ : ∃ X, V4.alloc (.cells #[.int .i64 1, .int .i64 2, .int .i64 3] 3) = X := ⟨_, rfl⟩
  have s5 : V5.heap.size = V4.heap.size + 1 := by rw [← hV5]; exact World.size_alloc _ _
  have b5 : Below V4.heap.size V4 V5 := hV5 ▸ one_below _ _
  have r5 : RdV V5 V5.heap.size (some ⟨V4.heap.size, 0, none⟩) (zc (ns [1, 2, 3])) := hV5 ▸ rdz_new V4 [1, 2, 3]
  have hl := rdg_lit V5 [(some ⟨V0.heap.size, 0, none⟩, 4, ns [1, 2, 3, 5]), (some ⟨V1.heap.size, 0, none⟩, 4, ns [1, 2, 3, 5]), (some ⟨V2.heap.size, 0, none⟩, 5, ns [0, 1, 2, 3, 5]), (none, 0, []), (some ⟨V3.heap.size, 0, none⟩, 1, ns [4]), (some ⟨V4.heap.size, 0, none⟩, 3, ns [1, 2, 3])] (fun r hr => by
    simp only [List.mem_cons, List.not_mem_nil, or_false] at hr
    rcases hr with rfl | rfl | rfl | rfl | rfl | rfl
    · exact ⟨(((r1.on b2).on b3).on b4).on b5, by simp [ns]⟩
    · exact ⟨((r2.on b3).on b4).on b5, by simp [ns]⟩
    · exact ⟨(r3.on b4).on b5, by simp [ns]⟩
    · exact ⟨.inl rfl, by simp⟩
    · exact ⟨r4.on b5, by simp [ns]⟩
    · exact ⟨r5, by simp [ns]⟩)
  have hb5 : Below V0.heap.size V0 V5 := b1.trans ((b2.trans ((b3.trans ((b4.trans (b5.mono (by omega))).mono (by omega))).mono (by omega))).mono (by omega))
  obtain ⟨V6, hV6⟩ : ∃ X, V5.alloc (.cells (rcl [(some ⟨V0.heap.size, 0, none⟩, 4, ns [1, 2, 3, 5]), (some ⟨V1.heap.size, 0, none⟩, 4, ns [1, 2, 3, 5]), (some ⟨V2.heap.size, 0, none⟩, 5, ns [0, 1, 2, 3, 5]), (none, 0, []), (some ⟨V3.heap.size, 0, none⟩, 1, ns [4]), (some ⟨V4.heap.size, 0, none⟩, 3, ns [1, 2, 3])]).toArray 25) = X := ⟨_, rfl⟩
  have b6 : Below V0.heap.size V0 V6 := hb5.trans (hV6 ▸ (one_below V5 _).mono (by omega))
  rw [hV6] at hl
  have hres : V6.heap[w.heap.size]? = some (.cells #[.slice (some ⟨w.heap.size + 1 + 1 + 1 + 1 + 1 + 1, 0, none⟩) 6 6] 24 (0, 0)) := (b6.block _ (by omega)).trans (hV0 ▸ World.alloc_heap_new w _)
  have z1 : V1.heap.size = w.heap.size + 1 + 1 := by omega
  have z2 : V2.heap.size = w.heap.size + 1 + 1 + 1 := by omega
  have z3 : V3.heap.size = w.heap.size + 1 + 1 + 1 + 1 := by omega
  have z4 : V4.heap.size = w.heap.size + 1 + 1 + 1 + 1 + 1 := by omega
  have z5 : V5.heap.size = w.heap.size + 1 + 1 + 1 + 1 + 1 + 1 := by omega
  rw [s0, z1, z2, z3, z4] at hV6
  rw [← hV5, ← hV4, ← hV3, ← hV2, ← hV1, ← hV0] at hV6
  have kres : V6.cell? ⟨w.heap.size, 0, none⟩ = some (.slice (some ⟨w.heap.size + 1 + 1 + 1 + 1 + 1 + 1, 0, none⟩) 6 6) := (cell_at hres 0).trans rfl
  rw [z5] at hl
  have HF := Lib.hid (⟨hl, b0.trans (b6.mono b0.size)⟩ : _ ∧ _)
  have HV6 := Lib.hid hV6
  clear hres hV0 hV1 hV2 hV3 hV4 hV5 hV6 hb5 b0 b1 b2 b3 b4 b5 b6 r1 r2 r3 r4 r5 hl s0 s1 s2 s3 s4 s5 z1 z2 z3 z4 z5
  go_enter Try.func36, Try.ntmps36
  go_wp2
  have e := HV6.out
  simp only [rcl, sl, List.map_cons, List.map_nil, ns, List.length_cons, List.length_nil] at e
  rw [e]
  refine bodyPost_ret (v := .agg #[.slice (some ⟨w.heap.size + 1 + 1 + 1 + 1 + 1 + 1, 0, none⟩) 6 6]) (by simp [results, Try.results36, go_sem, kres]) rfl ?_
  exact ⟨_, _, _, rfl, rfl, HF.out.1, HF.out.2⟩
end

section
set_option maxRecDepth 100000
set_option linter.unusedVariables false
open Go.RowKit Go.Shelf Go.Lib

theorem run_append_owned_noneD {P : Program} {w : World} (base : Nat) (t ty e : TypeId) (i : TypeInfo) (size c : Nat) (ht : P.underlying t = some (.slice e)) (hi : P.info? e = some i)
    (v : Value) (n : Nat) (xs : List Value) (hown : w.ownsRow base e size v n xs) :
    (Builtin.append_ #[t, t] ty #[v, .slice none 0 c]).run P w = .ok v w := by
  rcases hown.2 with ⟨rfl, rfl⟩ | ⟨g, cap, cur, rfl, _, _, hnc, _⟩
  · simp [Builtin.append_, run_underlying ht, sizeOf, typeInfo, hi, Builtin.lenOf, Builtin.firstCells]
  · simp [Builtin.append_, run_underlying ht, sizeOf, typeInfo, hi, Builtin.lenOf, Builtin.firstCells, hnc, storeCells]
theorem wpList_append_own_noneD {P : Program} {w : World} {ops : Array Oper} {rest : List Oper} {o : Oper} {a : Act} {Q : Exit → Act → World → Prop} (hgd : o.guard = none) (s x : Operand) (t : TypeId)
    (ho : o.op = .call { callee := .builtin .append, args := #[s, x], argTypes := #[t, t] })
    (base : Nat) (e : TypeId) (i : TypeInfo) (size : Nat) (ht : P.underlying t = some (.slice e)) (hi : P.info? e = some i)
    (v : Value) (n : Nat) (xs : List Value) (hs : a.eval s = v) (hown : w.ownsRow base e size v n xs) {c m : Nat} (hm : m = 0) (hx : a.eval x = .slice none m c)
    (h : wpList P ops Q rest (a.put o.dst v) w) : wpList P ops Q (o :: rest) a w := by
  subst hm
  refine wpList_plain hgd fun K hK => ?_
  have hrun := run_append_owned_noneD (P := P) (w := w) base t o.type e i size c ht hi v n xs hown
  unfold Oper.wp
  simp only [execOp, ho, resolve, invoke, builtin, Sem.run_bind, Sem.run_pure, Result.andThen_ok, List.map_toArray, List.map_cons, List.map_nil, hs, hx, hrun]
  exact hK _ _ h
set_option maxHeartbeats 4000000 in
theorem grow_nil (n : Nat) (hn : n ≤ 1000000) (w : World) :
    Calls Try.prog 98 #[.slice none 0 0, .int .i64 (n : Int)] w fun e w' => ∃ A c, e = .returned (.slice A 0 c) ∧ w'.ownsRow w.heap.size 3 1 (.slice A 0 c) 0 [] ∧ Below w.heap.size w w' := by
  obtain ⟨i0, hi, hz0, hz1, hz2⟩ := info_parts info3
  have h1 : decide ((n : Int) < 0) = false := by simp
  have h3 : IntKind.i64.wrap ((n : Int) - 0) = (n : Int) := by rw [Int.sub_zero]; exact IntWalk.i64_in _ (by omega)
  by_cases h0 : n = 0
  · subst h0
    go_enter Try.func98, Try.ntmps98
    go_wp2
    go_ret
    exact ⟨none, 0, rfl, ⟨rfl, .inl ⟨rfl, rfl⟩⟩, Below.refl _ _⟩
  · have h4 : decide (0 < (n : Int)) = true := by simp; omega
    have h5 : decide ((n : Int) > 0) = true := by simp; omega
    have h6 : (0 : Int) < (n : Int) := by omega
    have h7 : ¬ ((n : Int) < 0) := by omega
    have hold : (Builtin.firstCells i0.size 0 (.slice none 0 0)).run Try.prog w.drew = .ok ([] : List Value).toArray w.drew := run_firstCells_none w.drew i0.size 0 0 0
    have hrz : ∀ ty, (Builtin.append_ #[25, 3] ty #[.slice none 0 0, .int .i64 (n : Int)]).run Try.prog w =
        .ok (.slice (some ⟨w.heap.size, 0, none⟩) n (grownCap w n 0 3)) (w.drew.alloc (.cells ((([] : List Value).toArray ++ Builtin.zeroCells (Value.int .i64 0).cells n) ++ Builtin.zeroCells (Value.int .i64 0).cells (grownCap w n 0 3 - n)) 3)) := fun ty => by
      have h := Lib.run_append_grow_zeros w 25 3 ty 3 i0 (.int .i64 0) .i64 .i64 Try.underlying25 Try.underlying3 hi hz0 none 0 0 [] hold n (by omega) (by omega) (by omega) (by omega)
        (by rw [hz2]; omega) (by rw [Nat.zero_add]; exact growslice_fits (by omega) (by rw [hz2]; omega))
      rw [Nat.zero_add] at h
      exact h
    have hGn : n ≤ grownCap w n 0 3 := grownCap_ge w _ _ _
    have hGm : grownCap w n 0 3 ≤ maxLen := grownCap_le_maxLen w n 0 3 (by unfold maxLen; omega)
    obtain ⟨G, hG⟩ : ∃ G, G = grownCap w n 0 3 := ⟨_, rfl⟩
    rw [← hG] at hrz hGn hGm
    have hG63 : G ≤ 9223372036854775807 := by unfold maxLen at hGm; omega
    obtain ⟨cs, hcs⟩ : ∃ cs, cs = (([] : List Value).toArray ++ Builtin.zeroCells (Value.int .i64 0).cells n) ++ Builtin.zeroCells (Value.int .i64 0).cells (G - n) := ⟨_, rfl⟩
    have hsz : cs.size = G * 1 := by
      rw [hcs]; simp [Builtin.zeroCells, Value.cells]; omega
    rw [← hcs] at hrz
    have HO : Hid ((w.drew.alloc (.cells cs 3)).ownsRow w.heap.size 3 1 (.slice (some ⟨w.heap.size, 0, none⟩) 0 G) 0 [] ∧ Below w.heap.size w (w.drew.alloc (.cells cs 3))) :=
      ⟨⟨rfl, .inr ⟨w.heap.size, G, cs, rfl, Nat.le_refl _, World.alloc_heap_new w.drew (.cells cs 3), Nat.zero_le _, hGm, hsz, by simp⟩⟩, ((Below.refl w.heap.size w).drew).alloc (Nat.le_refl _) _⟩
    clear hold hG hcs hsz
    go_enter Try.func98, Try.ntmps98
    go_wp2_with (at_builtin; refine Lib.wpList_append_run _ rfl _ _ _ _ rfl _ _ rfl rfl _ _ (hrz _) ?_)
    all_goals (go_ret; exact ⟨_, _, rfl, HO.out.1, HO.out.2⟩)
theorem add_plU (b off k : Nat) : (⟨b, off, none⟩ : Addr).add k = ⟨b, off + k, none⟩ := by unfold Addr.add; split <;> simp_all
theorem rdv_newsU {w : World} {B : Nat} {a : Addr} {vs : List Value} (h : RdV w B (some a) vs) : ∀ j u, vs[j]? = some u → w.cell? (a.add j) = some u := by
  intro j u hu
  obtain ⟨b, off, e, hb, hc⟩ := h.at_ hu
  cases e
  rw [add_plU]; exact hc
theorem own_zero {w : World} {base n c : Nat} {e : TypeId} {xs : List Value} (h : w.ownsRow base e 1 (.slice none n c) n xs) : n = 0 := by
  rcases h.2 with ⟨h, h0⟩ | ⟨g, cap, cur, h, _⟩
  · exact h0
  · simp at h
theorem rdv_none_nil {w : World} {B : Nat} {l : List Nat} (h : RdV w B none (zc (ns l))) : l = [] := by
  rcases h with h | ⟨b, off, h, _⟩
  · cases l with
    | nil => rfl
    | cons x t => simp [zc, ns] at h
  · cases h
/-- At each round's head: so many are counted. -/
def SzRel (n1 n2 : Nat) (p s : Value) : Prop := (p = .int .i64 0 ∧ s = .int .i64 0) ∨ (p = .int .i64 1 ∧ s = .int .i64 (n1 : Int)) ∨ (p = .int .i64 2 ∧ s = .int .i64 ((n1 + n2 : Nat) : Int))
/-- At each round's head: so many lists are in the row. -/
def CtRel (l1 l2 : List Nat) (w : World) (v p : Value) (wr : World) : Prop :=
  ∃ (i : Nat) (l : List Nat), ((i = 0 ∧ l = []) ∨ (i = 1 ∧ l = l1) ∨ (i = 2 ∧ l = l1 ++ l2)) ∧ p = .int .i64 (i : Int) ∧ wr.ownsRow w.heap.size 3 1 v l.length (zc (ns l)) ∧ Below w.heap.size w wr
set_option maxHeartbeats 8000000 in
theorem concat_two (l1 l2 : List Nat) (n1 n2 : Nat) (hn1 : l1.length = n1) (hn2 : l2.length = n2) (h1 : n1 ≤ 100000) (h2 : n2 ≤ 100000) (A1 A2 : Option Addr) (c1 c2 : Nat) (S : Nat) (w : World)
    (hS : w.heap[S]? = some (.cells #[.slice A1 n1 c1, .slice A2 n2 c2] 25 (0, 0))) (r1 : RdV w w.heap.size A1 (zc (ns l1))) (r2 : RdV w w.heap.size A2 (zc (ns l2))) :
    Calls Try.prog 84 #[.slice (some ⟨S, 0, none⟩) 2 2] w fun e w' => ∃ A c, e = .returned (.slice A (n1 + n2) c) ∧ w'.ownsRow w.heap.size 3 1 (.slice A (n1 + n2) c) (n1 + n2) (zc (ns (l1 ++ l2))) ∧ Below w.heap.size w w' := by
  obtain ⟨i0, hi, hz0, hz1, hz2⟩ := info_parts info3
  have hSw : S < w.heap.size := (Array.getElem?_eq_some_iff.1 hS).1
  have HX1 := Lib.hid r1; have HX2 := Lib.hid r2; have HN1 := Lib.hid hn1; have HN2 := Lib.hid hn2
  have HG := Lib.hid (grow_nil (n1 + n2) (by omega))
  have k0 : w.cell? ⟨S, 0, none⟩ = some (.slice A1 n1 c1) := by rw [cell_at hS]; rfl
  have k1 : w.cell? ⟨S, 1, none⟩ = some (.slice A2 n2 c2) := by rw [cell_at hS]; rfl
  have HK : Hid (∀ V, Below w.heap.size w V → V.cell? ⟨S, 0, none⟩ = some (.slice A1 n1 c1) ∧ V.cell? ⟨S, 1, none⟩ = some (.slice A2 n2 c2)) := fun V hV => ⟨(hV.cell (p := ⟨S, 0, none⟩) hSw).trans k0, (hV.cell (p := ⟨S, 1, none⟩) hSw).trans k1⟩
  clear r1 r2 hn1 hn2 hS
  go_enter Try.func84, Try.ntmps84
  go_wp2
  go_loopw [3, 11] (fun s p wr => SzRel n1 n2 p s ∧ wr = w) (fun _ p _ => 2 - (intOf p).toNat)
  case atStart => exact ⟨.inl ⟨rfl, rfl⟩, rfl⟩
  case round =>
    obtain ⟨hsz, hw⟩ := hrel
    have hw2 := hw.symm
    subst hw2
    clear hw
    rcases hsz with ⟨rfl, rfl⟩ | ⟨rfl, rfl⟩ | ⟨rfl, rfl⟩
    · have t1 : IntKind.i64.wrap (0 + (n1 : Int)) = (n1 : Int) := by rw [Int.zero_add]; exact IntWalk.i64_in _ (by omega)
      have t2 : decide ((n1 : Int) < 0) = false := by simp
      go_wp2
      go_roundw
      case rel => exact ⟨.inr (.inl ⟨rfl, rfl⟩), by trivial⟩
      case measure => simp [intOf]
    · have t1 : IntKind.i64.wrap ((n1 : Int) + (n2 : Int)) = ((n1 + n2 : Nat) : Int) := by rw [← Int.natCast_add]; exact IntWalk.i64_in _ (by omega)
      have t2 : decide (((n1 + n2 : Nat) : Int) < 0) = false := by simp; omega
      go_wp2
      go_roundw
      case rel => exact ⟨.inr (.inr ⟨rfl, by go_num⟩), by trivial⟩
      case measure => simp [intOf]
    · clear k0 k1
      go_wp2_with fail
      refine (HG.out w).mono ?_
      rintro e w1 ⟨Av, cv, rfl, hrow, hbel⟩
      have HR := Lib.hid hrow; have HB := Lib.hid hbel
      clear hrow hbel HG
      go_wp2
      go_loopw [6, 27] (fun v p V => CtRel l1 l2 w v p V) (fun _ p _ => 2 - (intOf p).toNat)
      case atStart => exact ⟨0, [], .inl ⟨rfl, rfl⟩, rfl, HR.out, HB.out⟩
      case round =>
        obtain ⟨i, l, hcase, rfl, hrow, hbel⟩ := hrel
        rcases hcase with ⟨rfl, rfl⟩ | ⟨rfl, rfl⟩ | ⟨rfl, rfl⟩
        · obtain ⟨k0, k1⟩ := HK.out _ hbel
          obtain ⟨Av2, cv2, rfl⟩ := own_slice3 hrow
          simp only [List.length_nil] at hrow
          have hX := HX1.out.on hbel
          have HB0 := Lib.hid hbel
          clear hbel HR HB
          cases A1 with
          | none =>
            have hl0 := rdv_none_nil hX
            have HZ0 : Hid (n1 = 0) := by show _ = _; rw [← HN1.out, hl0]; rfl
            have HL0 := Lib.hid hl0
            clear hl0
            clear hX
            go_wp2_with (at_builtin; refine wpList_append_own_noneD rfl _ _ 25 rfl w.heap.size 3 i0 1 Try.underlying25 hi _ _ _ rfl hrow HZ0.out rfl ?_)
            all_goals (
              go_roundw
              case rel => first | exact ⟨1, l1, .inr (.inl ⟨rfl, rfl⟩), rfl, by rw [HL0.out]; exact hrow, HB0.out⟩ | exact ⟨_, _, _, _, _, _, _, _, _, _, ⟨1, l1, .inr (.inl ⟨rfl, rfl⟩), rfl, by rw [HL0.out]; exact hrow, HB0.out⟩, rfl, rfl⟩ | exact ⟨_, _, _, ⟨1, l1, .inr (.inl ⟨rfl, rfl⟩), rfl, by rw [HL0.out]; exact hrow, HB0.out⟩, rfl, rfl, rfl⟩
              case measure => simp [intOf])
          | some a =>
            have HNw := Lib.hid (rdv_newsU hX)
            have HLz : Hid ((zc (ns l1)).length = n1 * 1) := by show _ = _; rw [zc_length, ns_length, HN1.out, Nat.mul_one]
            have HOn := Lib.hid (zc_one (ns l1))
            clear hX
            go_wp2_with (at_builtin; refine wpList_append_own _ rfl _ _ 25 rfl w.heap.size 3 i0 (.int .i64 0) 1 8 Try.underlying25 hi hz0 hz1 hz2 rfl (by decide) _ _ _ rfl hrow a n1 c1 (zc (ns l1)) rfl HLz.out HNw.out HOn.out (by unfold maxLen; omega) (by omega) HB0.out.size ?_; intro v' w3 hown' hgrow _; obtain ⟨Av', cv', rfl⟩ := own_slice3 hown')
            have HO : Hid (w3.ownsRow w.heap.size 3 1 (.slice Av' (0 + n1) cv') l1.length (zc (ns l1))) := by
              show World.ownsRow _ _ _ _ _ _ _
              rw [HN1.out]
              have := hown'
              simpa [zc, ns] using this
            have HB : Hid (Below w.heap.size w w3) := HB0.out.trans (grown_low hgrow hrow HB0.out.size)
            clear hown' hgrow hrow HB0 k0 k1
            go_wp2
            go_roundw
            case rel => exact ⟨1, l1, .inr (.inl ⟨rfl, rfl⟩), rfl, by first | exact HO.out | simpa using HO.out, HB.out⟩
            case measure => simp [intOf]
        · obtain ⟨k0, k1⟩ := HK.out _ hbel
          obtain ⟨Av2, cv2, rfl⟩ := own_slice3 hrow
          have hX := HX2.out.on hbel
          have HB0 := Lib.hid hbel
          have HLen : Hid ((l ++ l2).length = n1 + n2) := by show _ = _; rw [List.length_append, HN1.out, HN2.out]
          generalize hk : l.length = k at *
          have HKk := Lib.hid hk
          have hkn : Hid (k = n1) := HN1.out
          have hk1 : k ≤ 100000 := by have := hkn.out; omega
          clear hk hbel HR HB
          cases A2 with
          | none =>
            have hl0 := rdv_none_nil hX
            have HZ0 : Hid (n2 = 0) := by show _ = _; rw [← HN2.out, hl0]; rfl
            have HL0 := Lib.hid hl0
            clear hl0
            clear hX
            go_wp2_with (at_builtin; refine wpList_append_own_noneD rfl _ _ 25 rfl w.heap.size 3 i0 1 Try.underlying25 hi _ _ _ rfl hrow HZ0.out rfl ?_)
            all_goals (
              go_roundw
              case rel => first | exact ⟨2, l ++ l2, .inr (.inr ⟨rfl, rfl⟩), rfl, by rw [HL0.out, List.append_nil, HKk.out]; exact hrow, HB0.out⟩ | exact ⟨_, _, _, _, _, _, _, _, _, _, ⟨2, l ++ l2, .inr (.inr ⟨rfl, rfl⟩), rfl, by rw [HL0.out, List.append_nil, HKk.out]; exact hrow, HB0.out⟩, rfl, rfl⟩ | exact ⟨_, _, _, ⟨2, l ++ l2, .inr (.inr ⟨rfl, rfl⟩), rfl, by rw [HL0.out, List.append_nil, HKk.out]; exact hrow, HB0.out⟩, rfl, rfl, rfl⟩
              case measure => simp [intOf])
          | some a =>
            have HNw := Lib.hid (rdv_newsU hX)
            have HLz : Hid ((zc (ns l2)).length = n2 * 1) := by show _ = _; rw [zc_length, ns_length, HN2.out, Nat.mul_one]
            have HOn := Lib.hid (zc_one (ns l2))
            clear hX
            go_wp2_with (at_builtin; refine wpList_append_own _ rfl _ _ 25 rfl w.heap.size 3 i0 (.int .i64 0) 1 8 Try.underlying25 hi hz0 hz1 hz2 rfl (by decide) _ _ _ rfl hrow a n2 c2 (zc (ns l2)) rfl HLz.out HNw.out HOn.out (by unfold maxLen; omega) (by omega) HB0.out.size ?_; intro v' w3 hown' hgrow _; obtain ⟨Av', cv', rfl⟩ := own_slice3 hown')
            have HO : Hid (w3.ownsRow w.heap.size 3 1 (.slice Av' (k + n2) cv') (l ++ l2).length (zc (ns (l ++ l2)))) := by
              show World.ownsRow _ _ _ _ _ _ _
              rw [HLen.out, ns_append, zc_append, ← hkn.out]; exact hown'
            have HB : Hid (Below w.heap.size w w3) := HB0.out.trans (grown_low hgrow hrow HB0.out.size)
            clear hown' hgrow hrow HB0 k0 k1
            go_wp2
            go_roundw
            case rel => exact ⟨2, l ++ l2, .inr (.inr ⟨rfl, rfl⟩), rfl, HO.out, HB.out⟩
            case measure => simp [intOf]
        · have hl : (l1 ++ l2).length = n1 + n2 := by rw [List.length_append, HN1.out, HN2.out]
          rw [hl] at hrow
          obtain ⟨Av2, cv2, rfl⟩ := own_slice3 hrow
          have HR2 := Lib.hid hrow; have HB2 := Lib.hid hbel
          clear hrow hbel HR HB
          go_wp2
          go_ret
          exact ⟨_, _, rfl, HR2.out, HB2.out⟩
end

section
set_option maxRecDepth 100000
set_option linter.unusedVariables false
open Go.RowKit Go.Shelf

/-- So far, of the first i nodes. -/
def MoI (g : List (List Nat)) (i : Nat) (r : Int) : Prop := 0 ≤ r ∧ (∀ s, s < i → ∀ F, Fa g s F → ∀ x, x < g.length → fv F x ≤ r) ∧ (i = 0 ∧ r = 0 ∨ ∃ s, s < i ∧ ∃ x, x < g.length ∧ ∀ F, Fa g s F → fv F x = r)
theorem MoI.next {g : List (List Nat)} {i : Nat} {r t : Int} {F : List Int} (h : MoI g i r) (hi : i < g.length) (hF : Fa g i F) (hm : MaxI F t) : MoI g (i + 1) (if r < t then t else r) := by
  obtain ⟨x, hx, e⟩ := List.getElem_of_mem hm.1
  have hfv : fv F x = t := by unfold fv; rw [List.getElem?_eq_getElem hx]; exact e
  have hxl : x < g.length := hF.len ▸ hx
  have h0 : 0 ≤ t := by
    have := hm.2 _ (List.getElem_mem (h := by rw [hF.len]; exact hi) (l := F) (n := i))
    have h1 := hF.zero hi
    unfold fv at h1; rw [List.getElem?_eq_getElem (by rw [hF.len]; exact hi)] at h1
    simp at h1; omega
  have hle : ∀ y, y < g.length → fv F y ≤ t := fun y hy => by
    have := hm.2 _ (List.getElem_mem (h := by rw [hF.len]; exact hy) (l := F) (n := y))
    unfold fv; rw [List.getElem?_eq_getElem (by rw [hF.len]; exact hy)]; exact this
  have key : ∀ q, r ≤ q → t ≤ q → ∀ s, s < i + 1 → ∀ F', Fa g s F' → ∀ x, x < g.length → fv F' x ≤ q := fun q hq1 hq2 s hs F' hF' y hy => by
    by_cases e : s = i
    · subst e
      rw [hF'.uniq hF]; have := hle y hy; omega
    · have := h.2.1 s (by omega) F' hF' y hy; omega
  by_cases q : r < t
  · rw [if_pos q]
    refine ⟨h0, key t (by omega) (by omega), .inr ⟨i, by omega, x, hxl, fun F' hF' => by rw [hF'.uniq hF]; exact hfv⟩⟩
  · rw [if_neg q]
    refine ⟨h.1, key r (by omega) (by omega), .inr ?_⟩
    rcases h.2.2 with ⟨_, e0⟩ | ⟨s, hs, y, hy, hq⟩
    · exact ⟨i, by omega, x, hxl, fun F' hF' => by rw [hF'.uniq hF, hfv]; omega⟩
    · exact ⟨s, by omega, y, hy, hq⟩
set_option maxHeartbeats 1000000 in
theorem most_e (R : List Rw) (N : Nat) (hN : R.length = N) (hN2 : N ≤ 140737488355328) (e0 : Int) (he : grE (gs R) = e0) (h0 : e0 ≠ 0) (A : Option Addr) (c : Nat) (w : World) (h : RdG w w.heap.size A R) :
    Calls Try.prog 21 #[.agg #[.slice A N c]] w fun e w' => e = .returned (.tuple #[.int .i64 0, .int .i64 e0]) ∧ Below w.heap.size w w' := by
  have HC : Hid (∀ V, Below w.heap.size w V → Calls Try.prog 34 #[.agg #[.slice A N c], .slice none 0 0] V fun e w' => e = .returned (.int .i64 e0) ∧ Below V.heap.size V w') := fun V hV => by
    have := checkn_any R N hN hN2 A c [] 0 rfl (by omega) none 0 V (h.on hV) (.inl rfl)
    rwa [cnE_bad (by rw [he]; exact h0), he] at this
  have t0 : (e0 == 0) = false := by simpa using h0
  clear he h hN h0
  go_enter Try.func21, Try.ntmps21
  go_wp2_with fail
  have HB0 : Hid (Below w.heap.size w (w.alloc (.cells #[.slice A N c] 24))) := one_below w _
  refine (HC.out _ HB0.out).mono ?_
  rintro e w1 ⟨rfl, b1⟩
  have HB1 : Hid (Below w.heap.size w w1) := HB0.out.trans (b1.mono (by simp))
  clear b1
  go_wp2
  go_ret2
  exact ⟨rfl, HB1.out⟩
set_option maxHeartbeats 2000000 in
theorem most_ok (R : List Rw) (g : List (List Nat)) (hg : gs R = g.map ns) (hok : GOk g) (N : Nat) (hN : R.length = N) (A : Option Addr) (c : Nat) (w : World) (h : RdG w w.heap.size A R) :
    Calls Try.prog 21 #[.agg #[.slice A N c]] w fun e w' => ∃ r, e = .returned (.tuple #[.int .i64 r, .int .i64 0]) ∧ MoG g r ∧ Below w.heap.size w w' := by
  have hgl : g.length = N := by have := congrArg List.length hg; rw [gs_length, List.length_map] at this; omega
  have hN1 : N ≤ 100 := by have := hok.nodes; omega
  have h0 : grE (gs R) = 0 := by rw [hg]; exact grE_ok g hok
  have HC : Hid (∀ V, Below w.heap.size w V → Calls Try.prog 34 #[.agg #[.slice A N c], .slice none 0 0] V fun e w' => e = .returned (.int .i64 0) ∧ Below V.heap.size V w') := fun V hV => by
    have := checkn_any R N hN (by omega) A c [] 0 rfl (by omega) none 0 V (h.on hV) (.inl rfl)
    rwa [cnE_ok h0 (by simp)] at this
  have HD : Hid (∀ s F, s < N → Fa g s F → ∀ V, Below w.heap.size w V → Calls Try.prog 35 #[.slice A N c, .int .i64 (s : Int)] V fun e w' => ∃ b, e = .returned (.slice (some ⟨b, 0, none⟩) N N) ∧ Ow V w' b F) := fun s F hs hF V hV =>
    (dist_any R g hg hok.bdd N hN (by omega) s hs A c V (h.on hV)).mono fun e w' ⟨b, F', q1, q2, q3⟩ => ⟨b, q1, by rw [hF.uniq q2]; exact q3⟩
  have HL : Hid (g.length = N) := hgl
  clear h hN hg hok hgl h0
  go_enter Try.func21, Try.ntmps21
  go_wp2_with fail
  have HB0 : Hid (Below w.heap.size w (w.alloc (.cells #[.slice A N c] 24)) ∧ (w.alloc (.cells #[.slice A N c] 24)).heap[w.heap.size]? = some (.cells #[.slice A N c] 24 (0, 0))) := ⟨one_below w _, World.alloc_heap_new w _⟩
  refine (HC.out _ HB0.out.1).mono ?_
  rintro e w1 ⟨rfl, b1⟩
  have HB1 : Hid (Below w.heap.size w w1) := HB0.out.1.trans (b1.mono (by simp))
  have HG : Hid (w1.heap[w.heap.size]? = some (.cells #[.slice A N c] 24 (0, 0))) := (b1.block _ (by simp)).trans HB0.out.2
  have HZ : Hid (w.heap.size < w1.heap.size) := by have := b1.size; rw [World.size_alloc] at this; exact this
  have kg : w1.cell? ⟨w.heap.size, 0, none⟩ = some (.slice A N c) := (cell_at HG.out 0).trans rfl
  clear b1 HB0
  go_wp2
  clear kg
  go_loopw [5, 15] (fun u v wr => ∃ (i : Nat) (r : Int), i ≤ N ∧ u = .int .i64 r ∧ v = .int .i64 (i : Int) ∧ MoI g i r ∧ Below w1.heap.size w1 wr) (fun _ v _ => N - (intOf v).toNat)
  case atStart => exact ⟨0, 0, Nat.zero_le _, rfl, rfl, ⟨Int.le_refl _, fun s hs => absurd hs (Nat.not_lt_zero _), .inl ⟨rfl, rfl⟩⟩, Below.refl _ _⟩
  case round =>
   as_aux_lemma =>
    obtain ⟨i, r, hi, rfl, rfl, hm, hbel⟩ := hrel
    by_cases hlt : i < N
    · obtain ⟨F, hF⟩ := fa_ex g i
      have kg : wr.cell? ⟨w.heap.size, 0, none⟩ = some (.slice A N c) := (cell_at ((hbel.block _ HZ.out).trans HG.out) 0).trans rfl
      have HBw : Hid (Below w.heap.size w wr) := HB1.out.trans (hbel.mono HB1.out.size)
      have HBl := Lib.hid hbel
      have HDi := Lib.hid (HD.out i F hlt hF wr HBw.out)
      have HM := Lib.hid (⟨hm, hF, hF.len.trans HL.out⟩ : _ ∧ _ ∧ _)
      clear hm hF hbel
      go_wp2_with fail
      refine HDi.out.mono ?_
      rintro e w2 ⟨b, rfl, hO⟩
      have HX := Lib.hid (maxi_any F N HM.out.2.2 (by omega) (by omega) (some ⟨b, 0, none⟩) N w2 hO.rd)
      have HB2 : Hid (Below w1.heap.size w1 w2) := HBl.out.trans (hO.low.mono HBl.out.size)
      clear hO kg
      go_wp2_with fail
      refine HX.out.mono ?_
      rintro e w3 ⟨t, rfl, ht, b3⟩
      have HB3 : Hid (Below w1.heap.size w1 w3) := HB2.out.trans (b3.mono HB2.out.size)
      have hnx := HM.out.1.next (by rw [HL.out]; exact hlt) HM.out.2.1 ht
      clear b3 ht
      by_cases q : r < t
      · rw [if_pos q] at hnx
        have HNx := Lib.hid hnx; clear hnx
        have e1 : max r t = t := by omega
        go_wp2
        go_roundw
        case rel => exact ⟨i + 1, t, by omega, by simp, by go_num, HNx.out, HB3.out⟩
        case measure => simp [intOf]; omega
      · rw [if_neg q] at hnx
        have HNx := Lib.hid hnx; clear hnx
        have e1 : max r t = r := by omega
        go_wp2
        go_roundw
        case rel => exact ⟨i + 1, r, by omega, by simp, by go_num, HNx.out, HB3.out⟩
        case measure => simp [intOf]; omega
    · obtain rfl : i = N := by omega
      have HM : Hid (MoG g r ∧ Below w.heap.size w wr) := by
        refine ⟨?_, HB1.out.trans (hbel.mono HB1.out.size)⟩
        have h1 := HL.out
        subst h1
        exact hm
      clear hm hbel
      go_wp2
      go_ret2
      exact ⟨r, rfl, HM.out.1, HM.out.2⟩
end

section
set_option maxRecDepth 100000
set_option linter.unusedVariables false
open Go.RowKit Go.Shelf

/-- The lists of those to which arcs lead, and behind them of those from which arcs lead. -/
def und (g : List (List Nat)) : List (List Nat) := (List.range g.length).map fun i => row g i ++ row (gturn g) i
theorem und_length (g : List (List Nat)) : (und g).length = g.length := by simp [und]
theorem und_row (g : List (List Nat)) (i : Nat) (h : i < g.length) : row (und g) i = row g i ++ row (gturn g) i := by
  unfold row und; rw [List.getElem?_map, List.getElem?_range h]; rfl
theorem und_mem {g : List (List Nat)} (hok : GOk g) (i x : Nat) : x ∈ row (und g) i ↔ x ∈ row g i ∨ i ∈ row g x := by
  by_cases h : i < g.length
  · rw [und_row g i h, List.mem_append, gturn_mem h]
  · rw [row_out (by rw [und_length]; omega), row_out (i := i) (by omega)]
    refine ⟨fun q => by simp at q, fun q => ?_⟩
    rcases q with q | q
    · simp at q
    · exact absurd (hok.bdd x i q) h
theorem und_bdd {g : List (List Nat)} (hok : GOk g) : Bdd (und g) := fun i x hx => by
  rw [und_length]
  rcases (und_mem hok i x).1 hx with h | h
  · exact hok.bdd i x h
  · exact row_lt h
theorem row_len {g : List (List Nat)} (hok : GOk g) (i : Nat) : (row g i).length ≤ 600 := by
  by_cases h : i < g.length
  · have h1 : ((row g i).map fun x => (i, x)).Sublist (arcs 0 g) := by
      have : ∀ (g : List (List Nat)) (o i : Nat), i < g.length → ((row g i).map fun x => (o + i, x)).Sublist (arcs o g) := by
        intro g
        induction g with
        | nil => intro o i h; simp at h
        | cons l t ih =>
          intro o i h
          cases i with
          | zero => unfold arcs; simp [row]
          | succ i =>
            unfold arcs
            have := ih (o + 1) i (by simpa using h)
            rw [show o + 1 + i = o + (i + 1) by omega] at this
            exact (by simpa [row] using this : (List.map (fun x => (o + (i + 1), x)) (row (l :: t) (i + 1))).Sublist (arcs (o + 1) t)).trans (List.sublist_append_right _ _)
      have h2 := this g 0 i h
      rwa [Nat.zero_add] at h2
    have h3 := h1.length_le
    rw [List.length_map] at h3
    exact Nat.le_trans h3 hok.many
  · rw [row_out (by omega)]; simp
theorem GR.setrow {X Y : World} {base O n : Nat} {v : Nat → Value} {rows : Nat → List Nat} (h : GR X base O n v rows) {i : Nat} (hi : i < n) (hb : Below X.heap.size X Y) {v' : Value} {r : List Nat} (ho : Y.ownsRow X.heap.size 3 1 v' r.length (zc (ns r))) (hbase : base ≤ X.heap.size) (hO : O < base) :
    GR (Y.setCell ⟨O, i, none⟩ v') base O n (fun j => if j = i then v' else v j) (fun j => if j = i then r else rows j) := by
  have hY := h.below hb
  have hse : ∀ j, base ≤ j → (Y.setCell ⟨O, i, none⟩ v').heap[j]? = Y.heap[j]? := fun j hj => Below.heap_setCell _ _ _ _ (by show j ≠ O; omega)
  refine ⟨?_, fun j hj => ?_, fun j k g hj hk hjk hg => ?_⟩
  · rw [heap_set_same _ _ _ _ _ _ hY.blk, List.setIfInBounds_toArray]
    congr 3
    apply List.ext_getElem?
    intro k
    rw [List.getElem?_set]
    by_cases hk : k < n
    · rw [List.getElem?_map, List.getElem?_map, List.getElem?_range hk, List.length_map, List.length_range]
      by_cases e : i = k
      · subst e; simp [hi]
      · rw [if_neg e]; simp only [Option.map_some]; rw [if_neg (fun q => e (Eq.symm q))]
    · rw [List.getElem?_eq_none (by simp; omega), List.getElem?_eq_none (by simp; omega), List.length_map, List.length_range, if_neg (by omega : ¬ i = k)]
  · by_cases e : j = i
    · simp only [if_pos e]
      exact own_elsewhere (own_base ho hbase) hse
    · simp only [if_neg e]
      exact own_elsewhere (hY.own j hj) hse
  · have hnew : ∀ g, v'.ownBlock = some g → X.heap.size ≤ g := fun g hg => (own_int_block ho hg).1
    have hold : ∀ j g, j < n → (v j).ownBlock = some g → g < X.heap.size := fun j g hj hg => by
      obtain ⟨_, cs, hc⟩ := own_int_block (h.own j hj) hg
      exact (Array.getElem?_eq_some_iff.1 hc).1
    by_cases e : j = i
    · simp only [if_pos e] at hg
      rw [if_neg (by omega)]
      intro q
      have := hnew g hg; have := hold k g hk q; omega
    · simp only [if_neg e] at hg
      by_cases e2 : k = i
      · simp only [if_pos e2]
        intro q
        have := hnew g q; have := hold j g hj hg; omega
      · simp only [if_neg e2]
        exact h.dif j k g hj hk hjk hg
/-- Lists of lists come back, and an error. -/
def BwP (w : World) (g : List (List Nat)) (e : Ending) (w' : World) : Prop :=
  ∃ A R c, e = .returned (.tuple #[.slice A g.length c, .int .i64 0]) ∧ gs R = (und g).map ns ∧ RdG w' w'.heap.size A R ∧ Below w.heap.size w w'
set_option maxHeartbeats 1000000 in
theorem bways_e (R : List Rw) (N : Nat) (hN : R.length = N) (hN2 : N ≤ 140737488355328) (e0 : Int) (he : grE (gs R) = e0) (h0 : e0 ≠ 0) (A : Option Addr) (c : Nat) (w : World) (h : RdG w w.heap.size A R) :
    Calls Try.prog 50 #[.agg #[.slice A N c]] w fun e w' => e = .returned (.tuple #[.slice none 0 0, .int .i64 e0]) ∧ Below w.heap.size w w' := by
  have HC : Hid (∀ V, Below w.heap.size w V → Calls Try.prog 18 #[.agg #[.slice A N c]] V fun e w' => ∃ A c, e = .returned (.tuple #[.agg #[.slice A 0 c], .int .i64 e0]) ∧ Below V.heap.size V w') := fun V hV =>
    (gturn_e R N hN hN2 e0 he h0 A c V (h.on hV)).mono fun e w' ⟨A, R, c, q1, _, _, q4⟩ => ⟨A, c, q1, q4⟩
  have t0 : (e0 == 0) = false := by simpa using h0
  clear he h hN h0
  go_enter Try.func50, Try.ntmps50
  go_wp2_with fail
  have HB0 : Hid (Below w.heap.size w (w.alloc (.cells #[.slice A N c] 24))) := one_below w _
  refine (HC.out _ HB0.out).mono ?_
  rintro e w1 ⟨A1, c1, rfl, b1⟩
  have HB1 : Hid (Below w.heap.size w (w1.alloc (.cells #[.slice A1 0 c1] 24))) := (HB0.out.trans (b1.mono (by simp))).trans ((one_below _ _).mono (by have := b1.size; rw [World.size_alloc] at this; omega))
  clear b1
  go_wp2
  go_ret2
  exact ⟨rfl, HB1.out⟩
set_option maxHeartbeats 4000000 in
theorem bways_ok (R : List Rw) (g : List (List Nat)) (hg : gs R = g.map ns) (hok : GOk g) (N : Nat) (hN : R.length = N) (A : Option Addr) (c : Nat) (w : World) (h : RdG w w.heap.size A R) :
    Calls Try.prog 50 #[.agg #[.slice A N c]] w (BwP w g) := by
  have hgl : g.length = N := by have := congrArg List.length hg; rw [gs_length, List.length_map] at this; omega
  have hN1 : N ≤ 100 := by have := hok.nodes; omega
  have HC : Hid (∀ V, Below w.heap.size w V → Calls Try.prog 18 #[.agg #[.slice A N c]] V fun e w' => ∃ A R c, e = .returned (.tuple #[.agg #[.slice A N c], .int .i64 0]) ∧ gs R = (gturn g).map ns ∧ RdG w' w'.heap.size A R ∧ Below V.heap.size V w') := fun V hV => by
    have := gturn_okW R g hg hok N hN A c V (h.on hV)
    unfold GrP at this
    rw [gturn_length, hgl] at this
    exact this
  have HCt : Hid (∀ (i : Nat) (x1 x2 : Rw), i < N → x1 = R[i]?.getD (none, 0, []) → x2.2.2 = ns (row (gturn g) i) → ∀ V, RdV V V.heap.size x1.1 (zc x1.2.2) → RdV V V.heap.size x2.1 (zc x2.2.2) → Calls Try.prog 84 #[.slice (some ⟨V.heap.size, 0, none⟩) 2 2] (V.alloc (.cells #[sl x1, sl x2] 25)) fun e w' => ∃ v, e = .returned v ∧ w'.ownsRow (V.heap.size + 1) 3 1 v (row (und g) i).length (zc (ns (row (und g) i))) ∧ Below V.heap.size V w') := fun i x1 x2 hi hx1 hx2 V h1 h2 => by
    have e1 : x1.2.2 = ns (row g i) := by rw [hx1]; exact row_ofD R g hg i (by rw [hgl]; exact hi)
    rw [e1] at h1; rw [hx2] at h2
    have l1 := row_len hok i
    have l2 := row_len (gturn_ok hok) i
    have hb := one_below V (.cells #[sl x1, sl x2] 25)
    have := concat_two (row g i) (row (gturn g) i) (row g i).length (row (gturn g) i).length rfl rfl (by omega) (by omega) x1.1 x2.1 x1.2.1 x2.2.1 V.heap.size (V.alloc (.cells #[sl x1, sl x2] 25)) (by have := World.alloc_heap_new V (.cells #[sl x1, sl x2] 25); unfold sl at this ⊢; rw [e1, hx2, ns_length, ns_length] at this ⊢; exact this) (h1.on hb) (h2.on hb)
    rw [World.size_alloc] at this
    refine this.mono ?_
    rintro e w' ⟨Av, cv, rfl, q1, q2⟩
    rw [und_row g i (by rw [hgl]; exact hi), List.length_append]
    exact ⟨_, rfl, q1, hb.trans (q2.mono (by omega))⟩
  have HH := Lib.hid (⟨hg, hN, hgl, h⟩ : gs R = g.map ns ∧ R.length = N ∧ g.length = N ∧ RdG w w.heap.size A R)
  have HOk := Lib.hid hok
  have hmk := run_make_row' (P := Try.prog) 22 25 (.slice none 0 0) 24 Try.underlying22 info_ints rfl .i64 .i64 N (by omega) (by omega)
  clear h hN hg hok hgl
  go_enter Try.func50, Try.ntmps50
  go_wp2_with fail
  have HB0 : Hid (Below w.heap.size w (w.alloc (.cells #[.slice A N c] 24)) ∧ (w.alloc (.cells #[.slice A N c] 24)).heap[w.heap.size]? = some (.cells #[.slice A N c] 24 (0, 0))) := ⟨one_below w _, World.alloc_heap_new w _⟩
  refine (HC.out _ HB0.out.1).mono ?_
  rintro e w1 ⟨A2, R2, c2, rfl, g2, r2, b1⟩
  have HB1 : Hid (Below w.heap.size w w1 ∧ w1.heap[w.heap.size]? = some (.cells #[.slice A N c] 24 (0, 0)) ∧ w.heap.size < w1.heap.size) := ⟨HB0.out.1.trans (b1.mono (by simp)), (b1.block _ (by simp)).trans HB0.out.2, by have := b1.size; rw [World.size_alloc] at this; exact this⟩
  have HT2 := Lib.hid (⟨g2, r2⟩ : _ ∧ _)
  have HG2 := Lib.hid g2
  clear b1 HB0 g2 r2
  obtain ⟨w2, hw2⟩ : ∃ w2, w1.alloc (.cells #[.slice A2 N c2] 24) = w2 := ⟨_, rfl⟩
  have H2 : Hid (Below w.heap.size w w2 ∧ w2.heap[w.heap.size]? = some (.cells #[.slice A N c] 24 (0, 0)) ∧ w2.heap[w1.heap.size]? = some (.cells #[.slice A2 N c2] 24 (0, 0)) ∧ w1.heap.size < w2.heap.size ∧ w.heap.size < w2.heap.size ∧ RdG w2 w2.heap.size A2 R2) := by
    have hb := one_below w1 (.cells #[.slice A2 N c2] 24)
    have hn := World.alloc_heap_new w1 (.cells #[.slice A2 N c2] 24)
    have hr := HT2.out.2.on hb
    rw [hw2] at hb hn hr
    have hz : w2.heap.size = w1.heap.size + 1 := by rw [← hw2]; exact World.size_alloc _ _
    have := HB1.out.2.2
    exact ⟨HB1.out.1.trans (hb.mono HB1.out.1.size), (hb.block _ HB1.out.2.2).trans HB1.out.2.1, hn, by omega, by omega, hr⟩
  have kg0 : (w1.alloc (.cells #[.slice A2 N c2] 24)).cell? ⟨w.heap.size, 0, none⟩ = some (.slice A N c) := by rw [hw2]; exact (cell_at H2.out.2.1 0).trans rfl
  have HW := Lib.hid hw2
  clear hw2
  go_wp2
  rw [HW.out]
  clear kg0 hmk
  obtain ⟨O, hO⟩ : ∃ O, w1.heap.size + 1 = O := ⟨_, rfl⟩
  rw [hO]
  have HG0 : Hid (GR (w2.alloc (.cells (madeCells #[.slice none 0 0] N) 25)) (O + 1) O N (fun _ => .slice none 0 0) (fun _ => []) ∧ w2.heap.size = O) := by
    have hz : w2.heap.size = O := by rw [← HW.out, World.size_alloc]; exact hO
    refine ⟨?_, hz⟩
    have := GR.made w2 (O + 1) N
    rwa [hz] at this
  obtain ⟨B3, hB3⟩ : ∃ B3, w1.heap.size = B3 := ⟨_, rfl⟩
  rw [hB3] at H2 ⊢
  clear hB3 hO HT2 HB1
  go_loopw [22] (fun p wr => ∃ (i : Nat) (v : Nat → Value) (rows : Nat → List Nat), i ≤ N ∧ p = .int .i64 (i : Int) ∧ GR wr (O + 1) O N v rows ∧ (∀ j, j < i → rows j = row (und g) j) ∧ Below O w2 wr ∧ O + 1 ≤ wr.heap.size) (fun p _ => N - (intOf p).toNat)
  case atStart => exact ⟨0, _, _, Nat.zero_le _, rfl, HG0.out.1, fun j hj => absurd hj (Nat.not_lt_zero _), by rw [← HG0.out.2]; exact one_below w2 _, by rw [World.size_alloc, HG0.out.2]; omega⟩
  case round =>
   as_aux_lemma =>
    obtain ⟨i, v, rows, hi, rfl, hG, hro, hbel, hsz⟩ := hrel
    have HS : Hid (∀ V, Below O w2 V → Below w.heap.size w V ∧ Below w2.heap.size w2 V ∧ V.cell? ⟨w.heap.size, 0, none⟩ = some (.slice A N c) ∧ V.cell? ⟨B3, 0, none⟩ = some (.slice A2 N c2) ∧ RdG V V.heap.size A R ∧ RdG V V.heap.size A2 R2) := fun V hV => by
      have hz := HG0.out.2
      rw [← hz] at hV
      obtain ⟨q1, q2, q3, q4, q5, q6⟩ := H2.out
      exact ⟨q1.trans (hV.mono q1.size), hV, (cell_at ((hV.block _ q5).trans q2) 0).trans rfl, (cell_at ((hV.block _ q4).trans q3) 0).trans rfl, (HH.out.2.2.2.on q1).on hV, q6.on hV⟩
    by_cases hlt : i < N
    · have hRl : i < R.length := by rw [HH.out.2.1]; exact hlt
      have hR2l : R2.length = N := by have := congrArg List.length HG2.out; rw [gs_length, List.length_map, gturn_length, HH.out.2.2.1] at this; exact this
      obtain ⟨-, -, kA, kB, rA, rB⟩ := HS.out w2 (Below.refl _ _)
      obtain ⟨b1, o1, rfl, hb1, k1⟩ := rA.1.at_ (rcl_get R i hRl)
      obtain ⟨b2, o2, rfl, hb2, k2⟩ := rB.1.at_ (rcl_get R2 i (by rw [hR2l]; exact hlt))
      have h1 := rA.2 _ (rw_mem R i hRl)
      have h2 := rB.2 _ (rw_mem R2 i (by rw [hR2l]; exact hlt))
      have e2 := row_ofD R2 (gturn g) HG2.out i (by rw [gturn_length, HH.out.2.2.1]; exact hlt)
      obtain ⟨x1, hx1⟩ : ∃ x1, x1 = R[i]?.getD (none, 0, []) := ⟨_, rfl⟩
      obtain ⟨x2, hx2⟩ : ∃ x2, x2 = R2[i]?.getD (none, 0, []) := ⟨_, rfl⟩
      rw [← hx1] at k1 h1
      rw [← hx2] at k2 h2 e2
      have HCi : Hid (∀ V, Below O w2 V → Calls Try.prog 84 #[.slice (some ⟨V.heap.size, 0, none⟩) 2 2] (V.alloc (.cells #[sl x1, sl x2] 25)) fun e w' => ∃ v, e = .returned v ∧ w'.ownsRow (V.heap.size + 1) 3 1 v (row (und g) i).length (zc (ns (row (und g) i))) ∧ Below V.heap.size V w') := fun V hV => HCt.out i x1 x2 hlt hx1 e2 V (h1.1.on (HG0.out.2.symm ▸ hV)) (h2.1.on (HG0.out.2.symm ▸ hV))
      have HSt : Hid (∀ V, Below O w2 V → V.cell? ⟨w.heap.size, 0, none⟩ = some (.slice (some ⟨b1, o1, none⟩) N c) ∧ V.cell? ⟨B3, 0, none⟩ = some (.slice (some ⟨b2, o2, none⟩) N c2) ∧ V.cell? ⟨b1, o1 + i, none⟩ = some (sl x1) ∧ V.cell? ⟨b2, o2 + i, none⟩ = some (sl x2)) := fun V hV => by
        rw [← HG0.out.2] at hV
        exact ⟨(hV.cell (World.block_lt_of_cell? _ _ kA)).trans kA, (hV.cell (World.block_lt_of_cell? _ _ kB)).trans kB, (hV.cell (World.block_lt_of_cell? _ _ k1)).trans k1, (hV.cell (World.block_lt_of_cell? _ _ k2)).trans k2⟩
      have HGd : Hid (∀ v' V, Below wr.heap.size wr V → V.ownsRow (wr.heap.size + 1) 3 1 v' (row (und g) i).length (zc (ns (row (und g) i))) → (V.cell? ⟨O, i, none⟩ = some (v i) ∧ V.frozen? ⟨O, i, none⟩ = false) ∧ ∃ (vf : Nat → Value) (rows : Nat → List Nat), GR (V.setCell ⟨O, i, none⟩ v') (O + 1) O N vf rows ∧ (∀ j, j < i + 1 → rows j = row (und g) j) ∧ Below O w2 (V.setCell ⟨O, i, none⟩ v') ∧ O + 1 ≤ (V.setCell ⟨O, i, none⟩ v').heap.size) := fun v' V hV hv => by
        have hGV := hG.below hV
        have hlow : Below O w2 V := hbel.trans (hV.mono (by omega))
        refine ⟨⟨hGV.cell hlt, hGV.frozen i⟩, _, _, hG.setrow hlt hV (own_base hv (by omega)) hsz (by omega), fun j hj => ?_, hlow.setCell (p := ⟨O, i, none⟩) (Nat.le_refl _) _, by have := hV.size; simp [World.setCell]; omega⟩
        by_cases e : j = i
        · rw [if_pos e, e]
        · rw [if_neg e]; exact hro j (by omega)
      have t1 : (0 : Int) ≤ (i : Int) := by omega
      have t2 : (i : Int) < (N : Int) := by omega
      have HBl : Hid (Below O w2 wr ∧ O + 1 ≤ wr.heap.size) := ⟨hbel, hsz⟩
      clear kA kB rA rB k1 k2 h1 h2 e2 hx1 hx2 hG hro hbel
      obtain ⟨P1, d1, y1⟩ := x1
      obtain ⟨P2, d2, y2⟩ := x2
      simp only [sl] at HCi HSt
      generalize y1.length = n1 at *
      generalize y2.length = n2 at *
      go_wp2
      go_region_held3 (fun w' => w'.cell? ⟨w.heap.size, 0, none⟩ = some (.slice (some ⟨b1, o1, none⟩) N c) ∧ w'.cell? ⟨B3, 0, none⟩ = some (.slice (some ⟨b2, o2, none⟩) N c2) ∧ w'.cell? ⟨b1, o1 + i, none⟩ = some (.slice P1 n1 d1) ∧ w'.cell? ⟨b2, o2 + i, none⟩ = some (.slice P2 n2 d2))
        ((first | exact HSt.out _ HB6.out | exact HSt.out _ HB5.out | exact HSt.out _ HBl.out.1.drew | exact HSt.out _ (HBl.out.1.drew.trans ((one_below wr.drew _).mono (by have := HBl.out.2; show O ≤ wr.heap.size; omega)))))
        (first
          | (go_at_call 84; refine (HCi.out wr.drew HBl.out.1.drew).mono ?_; rintro e w5 ⟨v', rfl, q1, q2⟩; have HQ := Lib.hid (HGd.out v' w5 ((Below.refl _ wr).drew.trans q2) q1); obtain ⟨z1, z2⟩ := HQ.out.1; obtain ⟨Av, cv, rfl⟩ := own_sliceT q1; have HB5 : Hid (Below O w2 w5) := HBl.out.1.drew.trans (q2.mono (by have := HBl.out.2; show O ≤ wr.heap.size; omega)); have HB6 : Hid (Below O w2 (w5.setCell ⟨O, i, none⟩ (.slice Av (row (und g) i).length cv))) := HB5.out.setCell (p := ⟨O, i, none⟩) (Nat.le_refl _) _; clear q1 q2)
          | fail)
      all_goals (
        go_wp2
        go_roundw
        case rel => exact (by obtain ⟨vf, rs, q1, q2, q3, q4⟩ := HQ.out.2; exact ⟨i + 1, vf, rs, by omega, by go_num, q1, q2, q3, q4⟩)
        case measure => simp [intOf]; omega)
    · obtain rfl : i = N := by omega
      have HF : Hid (gs (rwl i v rows) = (und g).map ns ∧ RdG wr wr.heap.size (some ⟨O, 0, none⟩) (rwl i v rows) ∧ Below w.heap.size w wr) := by
        refine ⟨?_, hG.read (fun j hj => ?_), (HS.out wr hbel).1⟩
        · rw [rwl_gs]
          congr 1
          have e : (und g).length = i := by rw [und_length]; exact HH.out.2.2.1
          apply List.ext_getElem (by simp [e])
          intro j h1 h2
          have hj : j < i := by simpa using h1
          simp only [List.getElem_map, List.getElem_range]
          rw [hro j hj]
          unfold row
          rw [List.getElem?_eq_getElem h2]; rfl
        · rw [hro j hj, und_row g j (by rw [HH.out.2.2.1]; exact hj), List.length_append]
          have l1 := row_len HOk.out j
          have l2 := row_len (gturn_ok HOk.out) j
          omega
      have HL := HH.out.2.2.1
      clear hG hro hbel
      go_wp2
      go_ret2
      exact ⟨some ⟨O, 0, none⟩, _, i, by rw [HL]; rfl, HF.out.1, HF.out.2.1, HF.out.2.2⟩
end

section
set_option maxRecDepth 100000
set_option linter.unusedVariables false
open Go.RowKit Go.Shelf

/-- A way leads from y to x. -/
def Re (g : List (List Nat)) (y x : Nat) : Prop := ∃ d, Rc g y d x
/-- Each node's least node of its part. -/
structure Pa (g : List (List Nat)) (p : List Nat) : Prop where
  len : p.length = g.length
  val : ∀ x, x < g.length → Re (und g) (qa p x) x ∧ ∀ y, y < g.length → Re (und g) y x → qa p x ≤ y
theorem Re.refl (g : List (List Nat)) (x : Nat) : Re g x x := ⟨0, rfl⟩
theorem Pa.lt {g : List (List Nat)} {p : List Nat} (h : Pa g p) (x : Nat) (hx : x < g.length) : qa p x ≤ x := (h.val x hx).2 x hx (Re.refl _ x)
theorem Pa.uniq {g : List (List Nat)} {p q : List Nat} (h : Pa g p) (k : Pa g q) : p = q := by
  apply List.ext_getElem (h.len.trans k.len.symm)
  intro x a b
  have hx : x < g.length := h.len ▸ a
  rw [qa_get a, qa_get b]
  have h1 := (h.val x hx).2 (qa q x) (Nat.lt_of_le_of_lt (k.lt x hx) hx) (k.val x hx).1
  have h2 := (k.val x hx).2 (qa p x) (Nat.lt_of_le_of_lt (h.lt x hx) hx) (h.val x hx).1
  omega
/-- So far as the nodes from k on say. -/
structure PaK (g : List (List Nat)) (k : Nat) (p : List Nat) : Prop where
  len : p.length = g.length
  val : ∀ x, x < g.length → (∃ y, k ≤ y ∧ y < g.length ∧ Re (und g) y x) → k ≤ qa p x ∧ Re (und g) (qa p x) x ∧ ∀ y, k ≤ y → y < g.length → Re (und g) y x → qa p x ≤ y
theorem PaK.fin {g : List (List Nat)} {p : List Nat} (h : PaK g 0 p) : Pa g p :=
  ⟨h.len, fun x hx => by
    obtain ⟨_, h1, h2⟩ := h.val x hx ⟨x, Nat.zero_le _, hx, Re.refl _ x⟩
    exact ⟨h1, fun y hy hr => h2 y (Nat.zero_le _) hy hr⟩⟩
theorem PaK.next {g : List (List Nat)} {k : Nat} {p q : List Nat} {F : List Int} (h : PaK g (k + 1) p) (hk : k < g.length) (hF : Fa (und g) k F) (hl : q.length = g.length) (hq : ∀ x, x < g.length → qa q x = if fv F x ≠ -1 then k else qa p x) : PaK g k q := by
  refine ⟨hl, fun x hx hex => ?_⟩
  rw [hq x hx]
  have hre : fv F x ≠ -1 ↔ Re (und g) k x := by
    have h1 := hF.reach x (by rw [und_length]; exact hx)
    have h2 := hF.ge x
    unfold Re
    rw [← h1]
    constructor <;> intro q <;> omega
  by_cases q : fv F x ≠ -1
  · rw [if_pos q]
    exact ⟨Nat.le_refl _, hre.1 q, fun y hy _ _ => hy⟩
  · rw [if_neg q]
    have hnk : ¬ Re (und g) k x := fun r => q (hre.2 r)
    obtain ⟨y, h1, h2, h3⟩ := hex
    have hyk : k + 1 ≤ y := by
      rcases Nat.lt_or_ge k y with r | r
      · exact r
      · obtain rfl : y = k := by omega
        exact absurd h3 hnk
    obtain ⟨r1, r2, r3⟩ := h.val x hx ⟨y, hyk, h2, h3⟩
    refine ⟨by omega, r2, fun z hz hzl hzr => ?_⟩
    by_cases e : z = k
    · subst e; exact absurd hzr hnk
    · exact r3 z (by omega) hzl hzr
theorem ns_set (l : List Nat) (i x : Nat) : (ns l).set i (x : Int) = ns (l.set i x) := by unfold ns; rw [List.map_set]
set_option maxHeartbeats 1000000 in
theorem parts_e (R : List Rw) (N : Nat) (hN : R.length = N) (hN2 : N ≤ 140737488355328) (e0 : Int) (he : grE (gs R) = e0) (h0 : e0 ≠ 0) (A : Option Addr) (c : Nat) (w : World) (h : RdG w w.heap.size A R) :
    Calls Try.prog 20 #[.agg #[.slice A N c]] w fun e w' => e = .returned (.tuple #[.slice none 0 0, .int .i64 e0]) ∧ Below w.heap.size w w' := by
  have HC : Hid (∀ V, Below w.heap.size w V → Calls Try.prog 50 #[.agg #[.slice A N c]] V fun e w' => e = .returned (.tuple #[.slice none 0 0, .int .i64 e0]) ∧ Below V.heap.size V w') := fun V hV => bways_e R N hN hN2 e0 he h0 A c V (h.on hV)
  have t0 : (e0 == 0) = false := by simpa using h0
  clear he h hN h0
  go_enter Try.func20, Try.ntmps20
  go_wp2_with fail
  have HB0 : Hid (Below w.heap.size w (w.alloc (.cells #[.slice A N c] 24))) := one_below w _
  refine (HC.out _ HB0.out).mono ?_
  rintro e w1 ⟨rfl, b1⟩
  have HB1 : Hid (Below w.heap.size w w1) := HB0.out.trans (b1.mono (by simp))
  clear b1
  go_wp2
  go_ret2
  exact ⟨rfl, HB1.out⟩
set_option maxHeartbeats 4000000 in
theorem parts_ok (R : List Rw) (g : List (List Nat)) (hg : gs R = g.map ns) (hok : GOk g) (N : Nat) (hN : R.length = N) (A : Option Addr) (c : Nat) (w : World) (h : RdG w w.heap.size A R) :
    Calls Try.prog 20 #[.agg #[.slice A N c]] w fun e w' => ∃ b p, e = .returned (.tuple #[.slice (some ⟨b, 0, none⟩) N N, .int .i64 0]) ∧ Pa g p ∧ Ow w w' b (ns p) := by
  obtain ⟨i0, hi, hz0, hz1, hz2⟩ := info_parts info_intD
  have hgl : g.length = N := by have := congrArg List.length hg; rw [gs_length, List.length_map] at this; omega
  have hN1 : N ≤ 100 := by have := hok.nodes; omega
  have HC : Hid (∀ V, Below w.heap.size w V → Calls Try.prog 50 #[.agg #[.slice A N c]] V fun e w' => ∃ A R c, e = .returned (.tuple #[.slice A N c, .int .i64 0]) ∧ gs R = (und g).map ns ∧ RdG w' w'.heap.size A R ∧ Below V.heap.size V w') := fun V hV => by
    have := bways_ok R g hg hok N hN A c V (h.on hV)
    unfold BwP at this
    rwa [hgl] at this
  have HL : Hid (g.length = N) := hgl
  have HOk := Lib.hid hok
  clear h hN hg hok hgl
  go_enter Try.func20, Try.ntmps20
  go_wp2_with fail
  have HB0 : Hid (Below w.heap.size w (w.alloc (.cells #[.slice A N c] 24))) := one_below w _
  refine (HC.out _ HB0.out).mono ?_
  rintro e w1 ⟨A2, R2, c2, rfl, g2, r2, b1⟩
  have HB1 : Hid (Below w.heap.size w w1) := HB0.out.trans (b1.mono (by simp))
  have hR2 : R2.length = N := by have := congrArg List.length g2; rw [gs_length, List.length_map, und_length, HL.out] at this; exact this
  have HD : Hid (∀ s F, s < N → Fa (und g) s F → ∀ V, Below w1.heap.size w1 V → Calls Try.prog 35 #[.slice A2 N c2, .int .i64 (s : Int)] V fun e w' => ∃ b, e = .returned (.slice (some ⟨b, 0, none⟩) N N) ∧ Ow V w' b F) := fun s F hs hF V hV =>
    (dist_any R2 (und g) g2 (und_bdd HOk.out) N hR2 (by omega) s hs A2 c2 V (r2.on hV)).mono fun e w' ⟨b, F', q1, q2, q3⟩ => ⟨b, q1, by rw [hF.uniq q2]; exact q3⟩
  clear b1 HB0 g2 r2 hR2 HC
  have hmz : zc (ns (List.replicate N 0)) = (madeCells (Value.int .i64 0).cells (N * 1)).toList := by
    rw [show (Value.int .i64 0).cells = #[Value.int .i64 0] from rfl, toList_madeCells_one, Nat.mul_one]; simp [zc, ns]
  have HMZ := Lib.hid hmz; clear hmz
  have a1 : IntKind.i64.wrap ((N : Int) - 1) = (N : Int) - 1 := by rw [IntKind.wrap_i64]; omega
  go_wp2_with (at_make; refine wpList_make_full _ rfl _ _ 25 rfl w1.heap.size 3 i0 (.int .i64 0) 1 Try.underlying25 hi hz0 hz1 _ _ _ _ N rfl rfl rfl rfl (by rw [hz2]; omega) (by unfold maxLen; omega) (Nat.le_refl _) ?_; intro w3 hown1 hgrow1; rw [← HMZ.out] at hown1; have hlow : Below w1.heap.size w1 w3 := (Below.refl _ w1).grown hgrow1 (Nat.le_refl _) (fun j hj => nomatch hj); have HO : Hid (Ow w1 w3 w1.heap.size (ns (List.replicate N 0))) := Ow.of_own hlow hown1; clear hown1 hgrow1 hlow)
  obtain ⟨B1, hB1⟩ : ∃ B1, w1.heap.size = B1 := ⟨_, rfl⟩
  have HB1s := Lib.hid hB1
  rw [hB1]
  rw [hB1] at HO
  clear hB1
  go_loopw [7] (fun v wr => ∃ (z : Int) (k : Nat) (p : List Nat), k ≤ N ∧ z + 1 = (k : Int) ∧ v = .int .i64 z ∧ Ow w1 wr B1 (ns p) ∧ PaK g k p) (fun v _ => (intOf v + 1).toNat)
  case atStart => exact ⟨(N : Int) - 1, N, _, Nat.le_refl _, by omega, rfl, HO.out, by simp [HL.out], fun x hx ⟨y, h1, h2, _⟩ => by have := HL.out; omega⟩
  case round =>
   as_aux_lemma =>
    obtain ⟨z, k, p, hk, hz, rfl, hO, hP⟩ := hrel
    by_cases h0 : k = 0
    · obtain rfl : z = -1 := by omega
      subst h0
      have HF : Hid (Pa g p ∧ Ow w wr B1 (ns p)) := ⟨hP.fin, HB1.out.trans (hO.low.mono HB1.out.size), by have := HB1.out.size; rw [HB1s.out] at this; exact this, hO.row⟩
      clear hO hP
      go_wp2
      go_ret2
      exact ⟨B1, p, rfl, HF.out.1, HF.out.2⟩
    · obtain ⟨node, rfl⟩ : ∃ node : Nat, k = node + 1 := ⟨k - 1, by omega⟩
      obtain rfl : z = (node : Int) := by omega
      obtain ⟨F, hF⟩ := fa_ex (und g) node
      have HDi := Lib.hid (HD.out node F (by omega) hF wr hO.low)
      have HS := Lib.hid (⟨hO, hP, hF⟩ : _ ∧ _ ∧ _)
      have HFl : Hid (F.length = N) := by show _ = _; rw [hF.len, und_length]; exact HL.out
      have t1 : decide ((0 : Int) ≤ (node : Int)) = true := by simp
      clear hO hP hF h0 hz
      go_wp2_with fail
      refine HDi.out.mono ?_
      rintro e w4 ⟨b, rfl, hOb⟩
      have HOb := Lib.hid hOb
      have HO4 : Hid (Ow w1 w4 B1 (ns p)) := HS.out.1.on hOb.low
      have hbB : Hid (B1 < b) := Nat.lt_of_lt_of_le HS.out.1.lt hOb.ge
      clear hOb HDi
      go_wp2
      go_loopw [32] (fun v wq => ∃ (j : Nat) (p' : List Nat), j ≤ N ∧ v = .int .i64 (j : Int) ∧ Ow w1 wq B1 (ns p') ∧ wq.heap[b]? = some (.cells (zc F).toArray 3 (0, 0)) ∧ p'.length = N ∧ ∀ x, x < N → qa p' x = if x < j ∧ fv F x ≠ -1 then node else qa p x) (fun v _ => N - (intOf v).toNat)
      case atStart => exact ⟨0, p, Nat.zero_le _, rfl, HO4.out, HOb.out.row, HS.out.2.1.len.trans HL.out, fun x _ => by rw [if_neg (fun q => Nat.not_lt_zero _ q.1)]⟩
      case round =>
        obtain ⟨j, p', hj, rfl, hO, hb, hl, hq⟩ := hrel
        by_cases hlt : j < N
        · have kf : wr.cell? ⟨b, j, none⟩ = some (.int .i64 (fv F j)) := (cell_at hb j).trans (by rw [List.getElem?_toArray]; exact fv_get F j (by rw [HFl.out]; exact hlt))
          obtain ⟨kp, kz⟩ := hO.cell j (by rw [ns_length, hl]; exact hlt)
          have t2 : (0 : Int) ≤ (j : Int) := by omega
          have t3 : (j : Int) < (N : Int) := by omega
          by_cases q : fv F j = -1
          · have HN : Hid (Ow w1 wr B1 (ns p') ∧ wr.heap[b]? = some (.cells (zc F).toArray 3 (0, 0)) ∧ p'.length = N ∧ ∀ x, x < N → qa p' x = if x < j + 1 ∧ fv F x ≠ -1 then node else qa p x) := ⟨hO, hb, hl, fun x hx => by
              rw [hq x hx]
              by_cases e : x = j
              · subst e; rw [if_neg (fun r => r.2 q), if_neg (fun r => r.2 q)]
              · by_cases e2 : x < j ∧ fv F x ≠ -1
                · rw [if_pos e2, if_pos ⟨by omega, e2.2⟩]
                · rw [if_neg e2, if_neg (fun r => e2 ⟨by omega, r.2⟩)]⟩
            rw [q] at kf
            clear hO hb hl hq q kp kz
            go_wp2
            go_roundw
            case rel => exact ⟨j + 1, p', by omega, by go_num, HN.out.1, HN.out.2.1, HN.out.2.2.1, HN.out.2.2.2⟩
            case measure => simp [intOf]; omega
          · have t4 : (fv F j == -1) = false := by simpa using q
            have HN : Hid (Ow w1 (wr.setCell ⟨B1, j, none⟩ (.int .i64 (node : Int))) B1 (ns (p'.set j node)) ∧ (wr.setCell ⟨B1, j, none⟩ (.int .i64 (node : Int))).heap[b]? = some (.cells (zc F).toArray 3 (0, 0)) ∧ (p'.set j node).length = N ∧ ∀ x, x < N → qa (p'.set j node) x = if x < j + 1 ∧ fv F x ≠ -1 then node else qa p x) := by
              refine ⟨ns_set p' j node ▸ hO.set j (node : Int), (Below.heap_setCell _ _ _ _ (by have := hbB.out; show b ≠ B1; omega)).trans hb, by rw [List.length_set]; exact hl, fun x hx => ?_⟩
              have e0 : qa (p'.set j node) x = if x = j then node else qa p' x := by
                unfold qa
                rw [List.getElem?_set]
                by_cases e : j = x
                · subst e; rw [if_pos rfl, if_pos (by omega), if_pos rfl]; rfl
                · rw [if_neg e, if_neg (fun r => e r.symm)]
              rw [e0]
              by_cases e : x = j
              · subst e; rw [if_pos rfl, if_pos ⟨by omega, q⟩]
              · rw [if_neg e, hq x hx]
                by_cases e2 : x < j ∧ fv F x ≠ -1
                · rw [if_pos e2, if_pos ⟨by omega, e2.2⟩]
                · rw [if_neg e2, if_neg (fun r => e2 ⟨by omega, r.2⟩)]
            generalize fv F j = u at *
            clear hO hb hl hq q
            go_wp2
            go_roundw
            case rel => exact ⟨j + 1, _, by omega, by go_num, HN.out.1, HN.out.2.1, HN.out.2.2.1, HN.out.2.2.2⟩
            case measure => simp [intOf]; omega
        · obtain rfl : j = N := by omega
          have HN : Hid (PaK g node p' ∧ Ow w1 wr B1 (ns p')) := ⟨HS.out.2.1.next (by have := HL.out; omega) HS.out.2.2 (hl.trans HL.out.symm) (fun x hx => by
            have hx' : x < j := by rw [← HL.out]; exact hx
            rw [hq x hx']
            by_cases e : fv F x ≠ -1
            · rw [if_pos ⟨hx', e⟩, if_pos e]
            · rw [if_neg (fun r => e r.2), if_neg e]), hO⟩
          have a2 : IntKind.i64.wrap ((node : Int) - 1) = (node : Int) - 1 := by rw [IntKind.wrap_i64]; omega
          clear hO hb hl hq
          go_wp2
          go_roundw
          case rel => exact ⟨(node : Int) - 1, node, p', by omega, by omega, by simp, HN.out.2, HN.out.1⟩
          case measure => simp [intOf]
end

section
set_option linter.unusedVariables false

/-- Where to go next, if just k steps are left behind that. -/
def nxtW (L : List Int) (k : Nat) (r : List Nat) : Nat := (r.find? fun y => fv L y == (k : Int)).getD 0
/-- The way of so many steps from a node on. -/
def wayL (g : List (List Nat)) (L : List Int) : Nat → Nat → List Nat
  | 0, x => [x]
  | k + 1, x => x :: wayL g L k (nxtW L k (row g x))
theorem wayL_length (g : List (List Nat)) (L : List Int) : ∀ k x, (wayL g L k x).length = k + 1
  | 0, x => rfl
  | k + 1, x => by rw [wayL, List.length_cons, wayL_length g L k]
theorem wayL_head (g : List (List Nat)) (L : List Int) (k x : Nat) : (wayL g L k x)[0]? = some x := by cases k <;> rfl
/-- L says how far t is from each node. -/
structure To (g : List (List Nat)) (t : Nat) (L : List Int) : Prop where
  len : L.length = g.length
  bdd : Bdd g
  tlt : t < g.length
  val : ∀ x, x < g.length → (fv L x = -1 ∧ ∀ d, ¬ Rc g x d t) ∨ ∃ d : Nat, fv L x = (d : Int) ∧ Rc g x d t ∧ ∀ e, Rc g x e t → d ≤ e
theorem To.of {g h : List (List Nat)} {t : Nat} {L : List Int} (hl : h.length = g.length) (hb : Bdd g) (ht : t < g.length) (h1 : ∀ i x, x ∈ row h i ↔ i ∈ row g x) (hF : Fa h t L) : To g t L where
  len := hF.len.trans hl
  bdd := hb
  tlt := ht
  val := fun x hx => by
    have r1 : ∀ d, Rc h t d x → Rc g x d t := fun d => rc_rev (fun i y q => (h1 i y).1 q) d t x
    have r2 : ∀ d, Rc g x d t → Rc h t d x := fun d => rc_rev (fun i y q => (h1 y i).2 q) d x t
    rcases hF.val x (by rw [hl]; exact hx) with ⟨q1, q2⟩ | ⟨d, q1, q2, q3⟩
    · exact .inl ⟨q1, fun d hd => q2 d (r2 d hd)⟩
    · exact .inr ⟨d, q1, r1 d q2, fun e he => q3 e (r2 e he)⟩
theorem To.next {g : List (List Nat)} {t : Nat} {L : List Int} (h : To g t L) {x k : Nat} (hx : x < g.length) (hk : fv L x = ((k + 1 : Nat) : Int)) : ∃ y, y ∈ row g x ∧ fv L y = (k : Int) := by
  rcases h.val x hx with ⟨q1, _⟩ | ⟨d, q1, q2, q3⟩
  · omega
  · obtain rfl : d = k + 1 := by omega
    obtain ⟨y, h1, h2⟩ := rc_uncons k x t q2
    refine ⟨y, h1, ?_⟩
    rcases h.val y (h.bdd x y h1) with ⟨r1, r2⟩ | ⟨e, r1, r2, r3⟩
    · exact absurd h2 (r2 k)
    · have a1 := r3 k h2
      have a2 := q3 (e + 1) (rc_head h1 r2)
      omega
theorem To.nxt {g : List (List Nat)} {t : Nat} {L : List Int} (h : To g t L) {x k : Nat} (hx : x < g.length) (hk : fv L x = ((k + 1 : Nat) : Int)) : nxtW L k (row g x) ∈ row g x ∧ fv L (nxtW L k (row g x)) = (k : Int) := by
  obtain ⟨y, h1, h2⟩ := h.next hx hk
  unfold nxtW
  cases e : (row g x).find? (fun y => fv L y == (k : Int)) with
  | none => exact absurd (List.find?_eq_none.1 e y h1) (by simp [h2])
  | some z => exact ⟨List.mem_of_find?_eq_some e, by have := List.find?_some e; simpa using this⟩
/-- The place of the next one in its list. -/
theorem find_at (p : Nat → Bool) : ∀ (l : List Nat) (i : Nat) (h : i < l.length), p l[i] = true → (∀ j (hj : j < i), p (l[j]'(by omega)) = false) → l.find? p = some l[i]
  | [], i, h, _, _ => absurd h (Nat.not_lt_zero _)
  | a :: t, 0, h, h1, _ => by
    have ha : p a = true := h1
    rw [List.find?_cons, ha]; rfl
  | a :: t, i + 1, h, h1, h2 => by
    have ha : p a = false := h2 0 (by omega)
    rw [List.find?_cons, ha]
    exact find_at p t i (by simpa using h) h1 (fun j hj => h2 (j + 1) (by omega))
/-- All on the way but the last one lead to the next one, and each is just so far. -/
theorem To.far_at {g : List (List Nat)} {t : Nat} {L : List Int} (h : To g t L) : ∀ (k x : Nat), x < g.length → fv L x = (k : Int) → ∀ i, i ≤ k → qa (wayL g L k x) i < g.length ∧ fv L (qa (wayL g L k x) i) = ((k - i : Nat) : Int)
  | 0, x, hx, hk, i, hi => by
    obtain rfl : i = 0 := by omega
    exact ⟨hx, hk⟩
  | k + 1, x, hx, hk, 0, _ => ⟨hx, hk⟩
  | k + 1, x, hx, hk, i + 1, hi => by
    obtain ⟨h1, h2⟩ := h.nxt hx hk
    have := To.far_at h k _ (h.bdd x _ h1) h2 i (by omega)
    have e : qa (wayL g L (k + 1) x) (i + 1) = qa (wayL g L k (nxtW L k (row g x))) i := rfl
    rw [e]
    refine ⟨this.1, ?_⟩
    rw [this.2]; congr 1; omega
theorem To.leads {g : List (List Nat)} {t : Nat} {L : List Int} (h : To g t L) : ∀ (k x : Nat), x < g.length → fv L x = (k : Int) → ∀ i, i < k → qa (wayL g L k x) (i + 1) = nxtW L (k - i - 1) (row g (qa (wayL g L k x) i)) ∧ qa (wayL g L k x) (i + 1) ∈ row g (qa (wayL g L k x) i)
  | 0, x, hx, hk, i, hi => absurd hi (Nat.not_lt_zero _)
  | k + 1, x, hx, hk, 0, _ => by
    obtain ⟨h1, h2⟩ := h.nxt hx hk
    have e : qa (wayL g L (k + 1) x) 1 = nxtW L k (row g x) := by
      show qa (wayL g L k (nxtW L k (row g x))) 0 = _
      unfold qa; rw [wayL_head]; rfl
    have e0 : qa (wayL g L (k + 1) x) 0 = x := by unfold qa; rw [wayL_head]; rfl
    rw [e, e0]
    exact ⟨by congr 1, h1⟩
  | k + 1, x, hx, hk, i + 1, hi => by
    obtain ⟨h1, h2⟩ := h.nxt hx hk
    have := To.leads h k _ (h.bdd x _ h1) h2 i (by omega)
    have e : ∀ j, qa (wayL g L (k + 1) x) (j + 1) = qa (wayL g L k (nxtW L k (row g x))) j := fun _ => rfl
    rw [e, e]
    refine ⟨?_, this.2⟩
    rw [this.1]; congr 1; omega
theorem To.last {g : List (List Nat)} {t : Nat} {L : List Int} (h : To g t L) (k x : Nat) (hx : x < g.length) (hk : fv L x = (k : Int)) : qa (wayL g L k x) k = t := by
  obtain ⟨h1, h2⟩ := h.far_at k x hx hk k (Nat.le_refl _)
  rw [Nat.sub_self] at h2
  rcases h.val _ h1 with ⟨q1, _⟩ | ⟨d, q1, q2, q3⟩
  · omega
  · obtain rfl : d = 0 := by omega
    exact Eq.symm q2
/-- What is made, one node behind the other. -/
theorem wayL_snoc {g : List (List Nat)} {t : Nat} {L : List Int} (h : To g t L) (k x : Nat) (hx : x < g.length) (hk : fv L x = (k : Int)) (i : Nat) (hi : i < k) : (wayL g L k x).take (i + 2) = (wayL g L k x).take (i + 1) ++ [nxtW L (k - i - 1) (row g (qa (wayL g L k x) i))] := by
  have hl : i + 1 < (wayL g L k x).length := by rw [wayL_length]; omega
  rw [List.take_succ_eq_append_getElem hl, qa_get hl, (h.leads k x hx hk i hi).1]
/-- No other way of as many steps is ahead of it. -/
theorem To.first {g : List (List Nat)} {t : Nat} {L : List Int} (h : To g t L) (hr : ∀ i, (row g i).Pairwise (· < ·)) (k x : Nat) (hx : x < g.length) (hk : fv L x = (k : Int)) (o : List Nat) (ho : o.length = k + 1) (o0 : qa o 0 = x) (ot : qa o k = t) (hl : ∀ i, i < k → qa o (i + 1) ∈ row g (qa o i)) (i : Nat) (hi : i ≤ k) (heq : ∀ j, j < i → qa o j = qa (wayL g L k x) j) : qa (wayL g L k x) i ≤ qa o i := by
  have e0 : qa (wayL g L k x) 0 = x := by unfold qa; rw [wayL_head]; rfl
  cases i with
  | zero => rw [e0, o0]; exact Nat.le_refl _
  | succ i =>
    have hpre := heq i (by omega)
    obtain ⟨h1, h2⟩ := h.leads k x hx hk i (by omega)
    obtain ⟨h3, h4⟩ := h.far_at k x hx hk i (by omega)
    obtain ⟨h5, h6⟩ := h.far_at k x hx hk (i + 1) (by omega)
    -- from each place of the other way it is no more than what is left
    have hw : ∀ m i, i + m = k → Rc g (qa o i) m t := by
      intro m
      induction m with
      | zero => intro i hi; show t = qa o i; rw [show i = k by omega, ot]
      | succ m ih => intro i hi; exact rc_head (hl i (by omega)) (ih (i + 1) (by omega))
    have hm := hw (k - (i + 1)) (i + 1) (by omega)
    have hin := hl i (by omega)
    rw [hpre] at hin
    have hol := h.bdd _ _ hin
    have hfo : fv L (qa o (i + 1)) = ((k - (i + 1) : Nat) : Int) := by
      rcases h.val _ hol with ⟨q1, q2⟩ | ⟨d, q1, q2, q3⟩
      · exact absurd hm (q2 _)
      · have a1 := q3 _ hm
        rcases h.val _ h3 with ⟨r1, r2⟩ | ⟨e, r1, r2, r3⟩
        · omega
        · have a2 := r3 (d + 1) (rc_head hin q2)
          omega
    -- the first one that is so far is no greater
    rw [h1]
    unfold nxtW
    have hgo : ∀ (l : List Nat), l.Pairwise (· < ·) → ∀ y ∈ l, (fv L y == ((k - i - 1 : Nat) : Int)) = true → (l.find? fun y => fv L y == ((k - i - 1 : Nat) : Int)).getD 0 ≤ y := by
      intro l
      induction l with
      | nil => intro _ y hy; simp at hy
      | cons a t ih =>
        intro hp y hy he
        obtain ⟨p1, p2⟩ := List.pairwise_cons.1 hp
        rw [List.find?_cons]
        rcases List.mem_cons.1 hy with rfl | hy
        · rw [he]; exact Nat.le_refl _
        · split
          · exact Nat.le_of_lt (p1 y hy)
          · exact ih p2 y hy he
    exact hgo _ (hr _) _ hin (by rw [hfo, Nat.sub_sub]; simp)
end

section
set_option maxRecDepth 100000
set_option linter.unusedVariables false
open Go.RowKit Go.Shelf

def slN : Value → Nat
  | .slice _ n _ => n
  | _ => 0
/-- Is a node just so far? -/
def isF (L : List Int) (z : Int) (y : Int) : Bool := fv L y.toNat == z
set_option maxHeartbeats 1000000 in
theorem way1 (L : List Int) (N : Nat) (hL : L.length = N) (x : Nat) (hx : x < N) (z : Int) (b BL BM c : Nat) (w : World) (h1 : w.heap[BL]? = some (.cells #[.slice (some ⟨b, 0, none⟩) N c] 25 (0, 0))) (h2 : w.heap[BM]? = some (.cells #[.int .i64 z] 3 (0, 0))) (h3 : w.heap[b]? = some (.cells (zc L).toArray 3 (0, 0))) :
    Calls Try.prog 71 (#[.int .i64 (x : Int)] ++ #[.pointer (some ⟨BL, 0, none⟩), .pointer (some ⟨BM, 0, none⟩)]) w fun e w' => e = .returned (.bool (isF L z (x : Int))) ∧ Below w.heap.size w w' := by
  show Calls Try.prog 71 #[.int .i64 (x : Int), .pointer (some ⟨BL, 0, none⟩), .pointer (some ⟨BM, 0, none⟩)] w _
  have k1 : w.cell? ⟨BL, 0, none⟩ = some (.slice (some ⟨b, 0, none⟩) N c) := (cell_at h1 _).trans rfl
  have k2 : w.cell? ⟨BM, 0, none⟩ = some (.int .i64 z) := (cell_at h2 _).trans rfl
  have k3 : w.cell? ⟨b, x, none⟩ = some (.int .i64 (fv L x)) := (cell_at h3 x).trans (by rw [List.getElem?_toArray]; exact fv_get L x (by omega))
  obtain ⟨r, hr⟩ : ∃ r, isF L z (x : Int) = r := ⟨_, rfl⟩
  have t1 : (fv L x == z) = r := by rw [← hr]; unfold isF; rw [Int.toNat_natCast]
  rw [hr]
  have t2 : (0 : Int) ≤ (x : Int) := by omega
  have t3 : (x : Int) < (N : Int) := by omega
  generalize fv L x = u at *
  clear h1 h2 h3 hr
  go_enter Try.func71, Try.ntmps71
  go_wp2
  go_quiet (fail)
  go_wp2
  go_ret
  exact ⟨rfl, below_drewN (Below.refl _ _) _⟩
theorem entersWay1 : ∀ args w, (callFunc 71 args).run Try.prog w = .ok (.enter 71 args) w := enters_of Try.func71 (by kernel_rfl) rfl
theorem idx_nxt {g : List (List Nat)} {t : Nat} {L : List Int} (h : To g t L) {x k : Nat} (hx : x < g.length) (hk : fv L x = ((k + 1 : Nat) : Int)) {r : Int} (hr : IdxF (isF L (k : Int)) (ns (row g x)) r) : ∃ i : Nat, r = (i : Int) ∧ i < (row g x).length ∧ qa (row g x) i = nxtW L k (row g x) := by
  obtain ⟨n1, n2⟩ := h.nxt hx hk
  have hp : ∀ y : Nat, isF L (k : Int) (y : Int) = (fv L y == (k : Int)) := fun y => by unfold isF; rw [Int.toNat_natCast]
  rcases hr with ⟨_, h0⟩ | ⟨i, h1, rfl, h2, h3⟩
  · have := h0 _ (List.mem_map.2 ⟨_, n1, rfl⟩)
    rw [hp, n2] at this
    simp at this
  · rw [ns_length] at h1
    have hg : ∀ j, j < (row g x).length → (ns (row g x))[j]?.getD 0 = ((qa (row g x) j : Nat) : Int) := fun j hj => by
      unfold ns; rw [List.getElem?_map, qa_eq hj]; rfl
    refine ⟨i, rfl, h1, ?_⟩
    have := find_at (fun y => fv L y == (k : Int)) (row g x) i h1 (by rw [hg i h1, hp] at h2; rw [qa_get h1]; exact h2) (fun j hj => by
      have := h3 j hj
      rw [hg j (by omega), hp] at this
      rw [qa_get (by omega : j < (row g x).length)]; exact this)
    unfold nxtW
    rw [this, Option.getD_some, qa_get h1]
set_option maxHeartbeats 1000000 in
theorem way_e (R : List Rw) (N : Nat) (hN : R.length = N) (hN2 : N ≤ 140737488355328) (s t e0 : Int) (he : cnE (gs R) [s, t] = e0) (h0 : e0 ≠ 0) (A : Option Addr) (c : Nat) (w : World) (h : RdG w w.heap.size A R) :
    Calls Try.prog 37 #[.agg #[.slice A N c], .int .i64 s, .int .i64 t] w fun e w' => e = .returned (.tuple #[.slice none 0 0, .int .i64 e0]) ∧ Below w.heap.size w w' := by
  have HC : Hid (∀ V, Below w.heap.size w V → Calls Try.prog 34 #[.agg #[.slice A N c], .slice (some ⟨V.heap.size, 0, none⟩) 2 2] (V.alloc (.cells #[.int .i64 s, .int .i64 t] 3)) fun e w' => e = .returned (.int .i64 e0) ∧ Below V.heap.size V w') := fun V hV => by
    have := checkn_any R N hN hN2 A c [s, t] 2 rfl (by omega) (some ⟨V.heap.size, 0, none⟩) 2 _ ((h.on hV).on (one_below V (.cells #[.int .i64 s, .int .i64 t] 3))) (lit_rdv V [s, t])
    rw [he] at this
    exact this.mono fun e w' q => ⟨q.1, (one_below V _).trans (q.2.mono (by simp))⟩
  have t0 : (e0 == 0) = false := by simpa using h0
  clear he h hN h0
  go_enter Try.func37, Try.ntmps37
  go_wp2_with fail
  have HB0 : Hid (Below w.heap.size w (w.alloc (.cells #[.slice A N c] 24))) := one_below w _
  have hC := HC.out _ HB0.out
  simp only [World.size_alloc] at hC
  refine hC.mono ?_
  rintro e w1 ⟨rfl, b1⟩
  have HB1 : Hid (Below w.heap.size w w1) := HB0.out.trans (b1.mono (by simp))
  clear b1 hC
  go_wp2
  go_ret2
  exact ⟨rfl, HB1.out⟩
set_option maxHeartbeats 8000000 in
/-- Where there is no way, and where there is. -/
theorem way_ok (R : List Rw) (g : List (List Nat)) (hg : gs R = g.map ns) (hok : GOk g) (N : Nat) (hN : R.length = N) (s t : Nat) (hs : s < N) (ht : t < N) (L : List Int) (hL : Fa (gturn g) t L) (A : Option Addr) (c : Nat) (w : World) (h : RdG w w.heap.size A R) :
    Calls Try.prog 37 #[.agg #[.slice A N c], .int .i64 (s : Int), .int .i64 (t : Int)] w fun e w' =>
      (fv L s = -1 ∧ e = .returned (.tuple #[.slice none 0 0, .int .i64 5]) ∧ Below w.heap.size w w') ∨
      ∃ (k : Nat) (Av : Option Addr) (cv : Nat), fv L s = (k : Int) ∧ e = .returned (.tuple #[.slice Av (k + 1) cv, .int .i64 0]) ∧ RdV w' w'.heap.size Av (zc (ns (wayL g L k s))) ∧ Below w.heap.size w w' ∧ k + 1 ≤ cv := by
  obtain ⟨i0, hi, hz0, hz1, hz2⟩ := info_parts info_intD
  have hgl : g.length = N := by have := congrArg List.length hg; rw [gs_length, List.length_map] at this; omega
  have hN1 : N ≤ 100 := by have := hok.nodes; omega
  have he : cnE (gs R) [(s : Int), (t : Int)] = 0 := cnE_ok (by rw [hg]; exact grE_ok g hok) (fun x hx => by simp only [List.mem_cons, List.not_mem_nil, or_false] at hx; rw [gs_length, hN]; omega)
  have HTo : Hid (To g t L) := To.of (gturn_length g) hok.bdd (by omega) (fun i x => by
    by_cases hil : i < g.length
    · exact gturn_mem hil
    · rw [row_out (by rw [gturn_length]; omega)]
      exact ⟨fun q => by simp at q, fun q => absurd (hok.bdd x i q) hil⟩) hL
  have HC : Hid (∀ V, Below w.heap.size w V → Calls Try.prog 34 #[.agg #[.slice A N c], .slice (some ⟨V.heap.size, 0, none⟩) 2 2] (V.alloc (.cells #[.int .i64 (s : Int), .int .i64 (t : Int)] 3)) fun e w' => e = .returned (.int .i64 0) ∧ Below V.heap.size V w') := fun V hV => by
    have := checkn_any R N hN (by omega) A c [(s : Int), (t : Int)] 2 rfl (by omega) (some ⟨V.heap.size, 0, none⟩) 2 _ ((h.on hV).on (one_below V (.cells #[.int .i64 (s : Int), .int .i64 (t : Int)] 3))) (lit_rdv V [(s : Int), (t : Int)])
    rw [he] at this
    exact this.mono fun e w' q => ⟨q.1, (one_below V _).trans (q.2.mono (by simp))⟩
  have HTu : Hid (∀ V, Below w.heap.size w V → Calls Try.prog 18 #[.agg #[.slice A N c]] V fun e w' => ∃ A R c, e = .returned (.tuple #[.agg #[.slice A N c], .int .i64 0]) ∧ gs R = (gturn g).map ns ∧ RdG w' w'.heap.size A R ∧ Below V.heap.size V w') := fun V hV => by
    have := gturn_okW R g hg hok N hN A c V (h.on hV)
    unfold GrP at this
    rw [gturn_length, hgl] at this
    exact this
  have hLl : L.length = N := by rw [hL.len, gturn_length]; exact hgl
  have hLu : fv L s < (N : Int) := by have := hL.lt (gturn_ok hok).bdd (by rw [gturn_length]; omega) s (by rw [gturn_length]; omega); rwa [gturn_length, hgl] at this
  have hLg := hL.ge s
  have HH := Lib.hid (⟨hg, hN, hgl, h, hL, gturn_ok hok, hLl⟩ : gs R = g.map ns ∧ R.length = N ∧ g.length = N ∧ RdG w w.heap.size A R ∧ Fa (gturn g) t L ∧ GOk (gturn g) ∧ L.length = N)
  clear he hg hN h hok hL
  go_enter Try.func37, Try.ntmps37
  go_wp2_with fail
  have HB0 : Hid (Below w.heap.size w (w.alloc (.cells #[.slice A N c] 24)) ∧ (w.alloc (.cells #[.slice A N c] 24)).heap[w.heap.size]? = some (.cells #[.slice A N c] 24 (0, 0))) := ⟨one_below w _, World.alloc_heap_new w _⟩
  have hC := HC.out _ HB0.out.1
  simp only [World.size_alloc] at hC
  refine hC.mono ?_
  rintro e w1 ⟨rfl, b1⟩
  have HB1 : Hid (Below w.heap.size w w1 ∧ w1.heap[w.heap.size]? = some (.cells #[.slice A N c] 24 (0, 0)) ∧ w.heap.size < w1.heap.size) := ⟨HB0.out.1.trans (b1.mono (by simp)), (b1.block _ (by simp)).trans HB0.out.2, by have := b1.size; rw [World.size_alloc] at this; omega⟩
  have kg : w1.cell? ⟨w.heap.size, 0, none⟩ = some (.slice A N c) := (cell_at HB1.out.2.1 0).trans rfl
  clear b1 hC HB0 HC
  go_wp2_with fail
  refine (HTu.out _ HB1.out.1).mono ?_
  rintro e w2 ⟨A2, R2, c2, rfl, g2, r2, b2⟩
  have HB2 : Hid (Below w.heap.size w w2 ∧ w2.heap[w.heap.size]? = some (.cells #[.slice A N c] 24 (0, 0)) ∧ w.heap.size < w2.heap.size) := ⟨HB1.out.1.trans (b2.mono HB1.out.1.size), (b2.block _ HB1.out.2.2).trans HB1.out.2.1, by have := b2.size; have := HB1.out.2.2; omega⟩
  have hR2 : R2.length = N := by have := congrArg List.length g2; rw [gs_length, List.length_map, gturn_length, HH.out.2.2.1] at this; exact this
  have HD : Hid (∀ V, Below w2.heap.size w2 V → Calls Try.prog 35 #[.slice A2 N c2, .int .i64 (t : Int)] V fun e w' => ∃ b, e = .returned (.slice (some ⟨b, 0, none⟩) N N) ∧ Ow V w' b L) := fun V hV =>
    (dist_any R2 (gturn g) g2 HH.out.2.2.2.2.2.1.bdd N hR2 (by omega) t ht A2 c2 V (r2.on hV)).mono fun e w' ⟨b, F', q1, q2, q3⟩ => ⟨b, q1, by rw [HH.out.2.2.2.2.1.uniq q2]; exact q3⟩
  clear b2 kg g2 r2 hR2 HTu HB1
  have HB3 : Hid (Below w2.heap.size w2 (w2.alloc (.cells #[.slice A2 N c2] 24)) ∧ (w2.alloc (.cells #[.slice A2 N c2] 24)).heap.size = w2.heap.size + 1) := ⟨one_below _ _, World.size_alloc _ _⟩
  have kt : (w2.alloc (.cells #[.slice A2 N c2] 24)).cell? ⟨w2.heap.size, 0, none⟩ = some (.slice A2 N c2) := (cell_at (World.alloc_heap_new w2 _) 0).trans rfl
  go_wp2_with fail
  refine (HD.out _ HB3.out.1).mono ?_
  rintro e w4 ⟨b, rfl, hO⟩
  have HO : Hid (Ow w2 w4 b L) := ⟨HB3.out.1.trans (hO.low.mono HB3.out.1.size), Nat.le_trans HB3.out.1.size hO.ge, hO.row⟩
  obtain ⟨w5, hw5⟩ : ∃ w5, w4.alloc (.cells #[.slice (some ⟨b, 0, none⟩) N N] 25) = w5 := ⟨_, rfl⟩
  have H5 : Hid (Below w.heap.size w w5 ∧ w5.heap[w.heap.size]? = some (.cells #[.slice A N c] 24 (0, 0)) ∧ w5.heap[w4.heap.size]? = some (.cells #[.slice (some ⟨b, 0, none⟩) N N] 25 (0, 0)) ∧ w5.heap[b]? = some (.cells (zc L).toArray 3 (0, 0)) ∧ w5.heap.size = w4.heap.size + 1) := by
    have q4 : Below w2.heap.size w2 w5 := hw5 ▸ HO.out.low.trans ((one_below w4 _).mono HO.out.low.size)
    refine ⟨HB2.out.1.trans (q4.mono HB2.out.1.size), (q4.block _ HB2.out.2.2).trans HB2.out.2.1, hw5 ▸ World.alloc_heap_new w4 _, ?_, by rw [← hw5]; exact World.size_alloc _ _⟩
    rw [← hw5, Below.heap_alloc _ _ _ HO.out.lt]; exact HO.out.row
  have kl : (w4.alloc (.cells #[.slice (some ⟨b, 0, none⟩) N N] 25)).cell? ⟨w4.heap.size, 0, none⟩ = some (.slice (some ⟨b, 0, none⟩) N N) := (cell_at (World.alloc_heap_new w4 _) 0).trans rfl
  have kb : (w4.alloc (.cells #[.slice (some ⟨b, 0, none⟩) N N] 25)).cell? ⟨b, s, none⟩ = some (.int .i64 (fv L s)) := by
    rw [hw5, cell_at H5.out.2.2.2.1, List.getElem?_toArray]; exact fv_get L s (by omega)
  have HW5 := Lib.hid hw5
  clear hw5 hO kt HB2 HB3 HD HO
  have t1 : (0 : Int) ≤ (s : Int) := by omega
  have t2 : (s : Int) < (N : Int) := by omega
  by_cases hn : fv L s = -1
  · rw [hn] at kb
    have HN := Lib.hid hn
    clear hn hLu hLg
    go_wp2
    go_ret2
    exact .inl ⟨HN.out, rfl, by rw [HW5.out]; exact H5.out.1⟩
  · obtain ⟨k, hk⟩ := Int.eq_ofNat_of_zero_le (show 0 ≤ fv L s by omega)
    have t3 : (fv L s == -1) = false := by simpa using hn
    rw [hk] at kb t3 hLu
    have a1 : IntKind.i64.wrap ((k : Int) - 1) = (k : Int) - 1 := by rw [IntKind.wrap_i64]; omega
    have HK := Lib.hid hk
    have kb2 : ((w4.alloc (.cells #[.slice (some ⟨b, 0, none⟩) N N] 25)).alloc (.cells #[.int .i64 (s : Int)] 3)).cell? ⟨b, s, none⟩ = some (.int .i64 (k : Int)) :=
      ((one_below _ _).cell (World.block_lt_of_cell? _ _ kb)).trans kb
    clear hn hLg hk
    go_wp2
    rw [HW5.out]
    have HR0 : Hid (((w5.alloc (.cells #[.int .i64 (s : Int)] 3)).alloc (.cells #[.int .i64 ((k : Int) - 1)] 3)).ownsRow w5.heap.size 3 1 (.slice (some ⟨w4.heap.size + 1, 0, none⟩) 1 1) 1 (zc (ns ((wayL g L k s).take 1))) ∧ ((w5.alloc (.cells #[.int .i64 (s : Int)] 3)).alloc (.cells #[.int .i64 ((k : Int) - 1)] 3)).heap[w4.heap.size + 1 + 1]? = some (.cells #[.int .i64 ((k : Int) - 1)] 3 (0, 0)) ∧ Below w5.heap.size w5 ((w5.alloc (.cells #[.int .i64 (s : Int)] 3)).alloc (.cells #[.int .i64 ((k : Int) - 1)] 3))) := by
      have hz := H5.out.2.2.2.2
      have h1 := World.alloc_heap_new w5 (.cells #[.int .i64 (s : Int)] 3)
      have h2 := World.alloc_heap_new (w5.alloc (.cells #[.int .i64 (s : Int)] 3)) (.cells #[.int .i64 ((k : Int) - 1)] 3)
      rw [World.size_alloc, hz] at h2
      rw [← hz]
      refine ⟨⟨?_, .inr ⟨w5.heap.size, 1, #[.int .i64 (s : Int)], rfl, Nat.le_refl _, (Below.heap_alloc _ _ _ (by simp)).trans h1, Nat.le_refl _, by unfold maxLen; omega, rfl, ?_⟩⟩, by rw [hz]; exact h2, (one_below _ _).trans ((one_below _ _).mono (by simp))⟩
      · rw [zc_length, ns_length, List.length_take, wayL_length]; omega
      · cases k <;> rfl
    obtain ⟨B4, hB4⟩ : ∃ B4, w4.heap.size = B4 := ⟨_, rfl⟩
    rw [hB4] at H5 HR0 ⊢
    have HTa := Lib.hid (HTo.out.far_at k s (by omega) HK.out)
    have HTs := Lib.hid (wayL_snoc HTo.out k s (by omega) HK.out)
    have HWl := Lib.hid (wayL_length g L k s)
    obtain ⟨Wy, hWy⟩ : ∃ Wy, wayL g L k s = Wy := ⟨_, rfl⟩
    rw [hWy] at HTa HTs HWl HR0
    have HWy := Lib.hid hWy
    have hk99 : k ≤ 100 := by omega
    clear kl kb kb2 hB4 hWy HW5 a1 t1 t2 t3 hLu
    go_loopw [12, 13] (fun v p wr => ∃ (i n1 Bm : Nat) (z : Int), i ≤ k ∧ n1 = i + 1 ∧ z + (i : Int) + 1 = (k : Int) ∧ p = .pointer (some ⟨Bm, 0, none⟩) ∧ wr.ownsRow w5.heap.size 3 1 v n1 (zc (ns (Wy.take n1))) ∧ wr.heap[Bm]? = some (.cells #[.int .i64 z] 3 (0, 0)) ∧ v.ownBlock ≠ some Bm ∧ Below w5.heap.size w5 wr) (fun v _ _ => k + 1 - slN v)
    case atStart => exact ⟨0, 1, _, (k : Int) - 1, Nat.zero_le _, rfl, by omega, rfl, HR0.out.1, HR0.out.2.1, by simp [Value.ownBlock], HR0.out.2.2⟩
    case round =>
     as_aux_lemma =>
      clear HR0
      obtain ⟨i, n1, Bm, z, hik, hn1, hz, rfl, hrow, hbox, hne, hbel⟩ := hrel
      obtain ⟨Av, cv, rfl⟩ := own_sliceT hrow
      have km : wr.cell? ⟨Bm, 0, none⟩ = some (.int .i64 z) := (cell_at hbox 0).trans rfl
      have HZ5 : Hid (B4 < w5.heap.size ∧ b < w5.heap.size ∧ w.heap.size < w5.heap.size) := ⟨(Array.getElem?_eq_some_iff.1 H5.out.2.2.1).1, (Array.getElem?_eq_some_iff.1 H5.out.2.2.2.1).1, (Array.getElem?_eq_some_iff.1 H5.out.2.1).1⟩
      by_cases hlt : i < k
      · have t0 : decide ((0 : Int) ≤ z) = true := by simp; omega
        obtain ⟨gb, cap, e0, hgb, hgb2⟩ := hrow.form (by omega)
        simp only [Value.slice.injEq] at e0
        obtain ⟨rfl, -, rfl⟩ := e0
        have hWl := HWl.out
        obtain ⟨x, hx⟩ : ∃ x, qa Wy i = x := ⟨_, rfl⟩
        obtain ⟨kw, -⟩ := own_cell hrow (i := i) (v := .int .i64 (x : Int)) (by
          unfold zc ns
          rw [List.getElem?_map, List.getElem?_map, List.getElem?_take_of_lt (by omega), qa_eq (by omega), hx]; rfl)
        obtain ⟨hxl, hxk⟩ := HTa.out i (by omega)
        rw [hx] at hxl hxk
        obtain ⟨m, hm⟩ : ∃ m, k - i - 1 = m := ⟨_, rfl⟩
        have hxk' : fv L x = ((m + 1 : Nat) : Int) := by rw [hxk]; congr 1; omega
        obtain rfl : z = (m : Int) := by omega
        have hsn := HTs.out i hlt
        rw [hx, hm] at hsn
        have HX := Lib.hid (⟨hxl, hxk', hsn⟩ : _ ∧ _ ∧ _)
        have hxN : x < N := by rw [← HH.out.2.2.1]; exact hxl
        have hRl : x < R.length := by rw [HH.out.2.1]; exact hxN
        obtain ⟨b1, o1, rfl, hb1, k1'⟩ := HH.out.2.2.2.1.1.at_ (rcl_get R x hRl)
        have hB5 : Below w.heap.size w wr := H5.out.1.trans (hbel.mono H5.out.1.size)
        have k1 := (hB5.cell (p := ⟨b1, o1 + x, none⟩) hb1).trans k1'
        have hr1 := HH.out.2.2.2.1.2 _ (rw_mem R x hRl)
        have hro := row_ofD R g HH.out.1 x hxl
        have kg : wr.cell? ⟨w.heap.size, 0, none⟩ = some (.slice (some ⟨b1, o1, none⟩) N c) := (cell_at ((hbel.block _ HZ5.out.2.2).trans H5.out.2.1) 0).trans rfl
        generalize R[x]?.getD (none, 0, []) = y at *
        obtain ⟨P1, d1, xs⟩ := y
        unfold sl at k1 k1'
        simp only at k1 k1' hr1 hro
        subst hro
        obtain ⟨rl, hrl⟩ : ∃ rl, (row g x).length = rl := ⟨_, rfl⟩
        rw [ns_length, hrl] at k1 k1' hr1
        have t1 : (0 : Int) ≤ (i : Int) := by omega
        have t2 : (i : Int) < (n1 : Int) := by omega
        have t3 : (0 : Int) ≤ (x : Int) := by omega
        have t4 : (x : Int) < (N : Int) := by omega
        have a2 : IntKind.i64.wrap ((n1 : Int) - 1) = (i : Int) := by rw [IntKind.wrap_i64]; omega
        have HS := Lib.hid (⟨hrow, hbox, hbel, hr1, hrl, hB5, hne⟩ : _ ∧ _ ∧ _ ∧ _ ∧ _ ∧ _ ∧ _)
        have HN1 := Lib.hid hn1
        have hn1a : n1 ≤ i + 1 := by omega
        have hn1b : i + 1 ≤ n1 := by omega
        have hza : m + i + 1 ≤ k := by omega
        have hzb : k ≤ m + i + 1 := by omega
        clear hrow hbox hbel hr1 hrl hB5 k1' hsn hxk hxk' hx hne hn1 hz
        go_wp2
        go_quiet (fail)
        have HBw : Hid (Below wr.heap.size wr (wr.drewN nq)) := below_drewN (Below.refl _ wr) nq
        generalize wr.drewN nq = W at *
        have HIx : Hid (Calls Try.prog 70 #[.slice P1 rl d1, .func (.func 71) #[] #[.pointer (some ⟨B4, 0, none⟩), .pointer (some ⟨Bm, 0, none⟩)]] W fun e w' => ∃ r, e = .returned (.int .i64 r) ∧ IdxF (isF L (m : Int)) (ns (row g x)) r ∧ Below W.heap.size W w') := by
          have hb2 : Below w5.heap.size w5 W := HS.out.2.2.1.trans (HBw.out.mono HS.out.2.2.1.size)
          have hrW := (HS.out.2.2.2.1.1.on HS.out.2.2.2.2.2.1).on HBw.out
          have hbW := (HBw.out.block _ (Array.getElem?_eq_some_iff.1 HS.out.2.1).1).trans HS.out.2.1
          refine idxf_any _ _ (isF L (m : Int)) (ns (row g x)) rl (by rw [ns_length]; exact HS.out.2.2.2.2.1) (by have := HS.out.2.2.2.1.2; exact this) P1 d1 W hrW entersWay1 (fun y hy V hV => ?_)
          obtain ⟨y', hy', rfl⟩ := List.mem_map.1 hy
          have hy2 : y' < N := by rw [← HH.out.2.2.1]; exact HTo.out.bdd x y' hy'
          have q1 := HZ5.out
          have q2 := hb2.size
          exact way1 L N HH.out.2.2.2.2.2.2 y' hy2 (m : Int) b B4 Bm N V ((hV.block _ (by omega)).trans ((hb2.block _ q1.1).trans H5.out.2.2.1)) ((hV.block _ (Array.getElem?_eq_some_iff.1 hbW).1).trans hbW) ((hV.block _ (by omega)).trans ((hb2.block _ q1.2.1).trans H5.out.2.2.2.1))
        clear kg kw k1 km
        go_wp2_with fail
        refine HIx.out.mono ?_
        rintro e w6 ⟨r, rfl, hr, b6⟩
        obtain ⟨i2, rfl, hi2, hnx⟩ := idx_nxt HTo.out HX.out.1 HX.out.2.1 hr
        have HB6 : Hid (Below wr.heap.size wr w6) := HBw.out.trans (b6.mono HBw.out.size)
        have hr6 := (HS.out.2.2.2.1.1.on HS.out.2.2.2.2.2.1).on HB6.out
        obtain ⟨b2, o2, rfl, hb2, k2⟩ := hr6.at_ (zc_getN (row g x) i2 (qa (row g x) i2) (qa_eq hi2))
        rw [hnx] at k2
        have HSn := HX.out.2.2
        have HSn2 : Hid (Wy.take (n1 + 1) = Wy.take n1 ++ [nxtW L m (row g x)]) := by show _ = _; rw [HN1.out]; exact HX.out.2.2
        clear HSn
        generalize nxtW L m (row g x) = y at *
        have hrow6 : w6.ownsRow w5.heap.size 3 1 (.slice (some ⟨gb, 0, none⟩) n1 cv) n1 (zc (ns (Wy.take n1))) := own_below HS.out.1 HB6.out
        have HBox6 : Hid (w6.heap[Bm]? = some (.cells #[.int .i64 (m : Int)] 3 (0, 0))) := (HB6.out.block _ (Array.getElem?_eq_some_iff.1 HS.out.2.1).1).trans HS.out.2.1
        have HL6 : Hid (Below w5.heap.size w5 w6) := HS.out.2.2.1.trans (HB6.out.mono HS.out.2.2.1.size)
        have hi2r : i2 < rl := by rw [← HS.out.2.2.2.2.1]; exact hi2
        have t5 : (0 : Int) ≤ (i2 : Int) := by omega
        have t6 : (i2 : Int) < (rl : Int) := by omega
        have a3 : IntKind.i64.wrap ((m : Int) - 1) = (m : Int) - 1 := by rw [IntKind.wrap_i64]; omega
        clear hr b6 hr6 hnx hi2 HIx HBw
        go_wp2_with (at_builtin; go_loud (refine wpList_append_own _ rfl _ _ 25 rfl w5.heap.size 3 i0 (.int .i64 0) 1 8 Try.underlying25 hi hz0 hz1 hz2 rfl (by decide) _ _ _ rfl (hrow6.alloc _) ⟨w6.heap.size, 0, none⟩ 1 1 [.int .i64 (y : Int)] rfl rfl (news_row w6 [.int .i64 (y : Int)] _) (by simp [Value.oneCell']) (by unfold maxLen; omega) (by omega) (by have := HL6.out.size; simp; omega) ?_); intro v' w7 hown' hgrow _; have HG7 := Lib.hid (⟨hown', hgrow⟩ : _ ∧ _); have HM7 : Hid (w7.heap[Bm]? = some (.cells #[.int .i64 (m : Int)] 3 (0, 0))) := (hgrow.block Bm (by have := (Array.getElem?_eq_some_iff.1 HBox6.out).1; rw [World.size_alloc]; omega) (fun q => HS.out.2.2.2.2.2.2 q.symm)).trans ((Below.heap_alloc _ _ _ (Array.getElem?_eq_some_iff.1 HBox6.out).1).trans HBox6.out); have km := (cell_at HM7.out 0).trans rfl; clear hown' hgrow)
        have hF : w7.ownsRow w5.heap.size 3 1 v' (n1 + 1) (zc (ns (Wy.take (n1 + 1)))) := by
          have e : zc (ns (Wy.take (n1 + 1))) = zc (ns (Wy.take n1)) ++ [.int .i64 (y : Int)] := by rw [HSn2.out]; unfold zc ns; simp
          rw [e]; exact HG7.out.1
        have hB7 : Below w5.heap.size w5 w7 := (HL6.out.alloc HL6.out.size _).trans (grown_low HG7.out.2 (hrow6.alloc _) (by have := HL6.out.size; rw [World.size_alloc]; omega))
        have hsl : slN v' = n1 + 1 := by obtain ⟨A7, c7, rfl⟩ := own_sliceT hF; rfl
        refine ⟨⟨i + 1, n1 + 1, w7.heap.size, (m : Int) - 1, by omega, by omega, by omega, rfl, hF.alloc _, World.alloc_heap_new w7 _, ?_, hB7.alloc hB7.size _⟩, by rw [hsl]; show k + 1 - (n1 + 1) < k + 1 - n1; omega⟩
        intro q
        obtain ⟨-, cs, hc⟩ := own_int_block hF q
        have := (Array.getElem?_eq_some_iff.1 hc).1
        omega
      · obtain rfl : i = k := by omega
        obtain rfl : z = -1 := by omega
        have HF : Hid (RdV wr wr.heap.size Av (zc (ns (wayL g L i s))) ∧ Below w.heap.size w wr ∧ i + 1 ≤ cv) := by
          refine ⟨?_, H5.out.1.trans (hbel.mono H5.out.1.size), by have := (own_capA hrow).1; omega⟩
          have := own_rdvA hrow
          rw [HWy.out]
          rwa [List.take_of_length_le (by rw [HWl.out]; omega)] at this
        have hn1a : Hid (n1 = i + 1) := hn1
        clear hrow hbox hbel hne hn1 hz
        go_wp2
        go_ret2
        exact .inr ⟨i, Av, cv, HK.out, by rw [hn1a.out]; rfl, HF.out.1, HF.out.2⟩
end

section
set_option maxRecDepth 100000
set_option linter.unusedVariables false
open Go.RowKit Go.Shelf

/-- A list that steps as the arcs do, checked node by node. -/
theorem Fa.chk {g : List (List Nat)} {s : Nat} {f : List Int} (hb : Bdd g) (h : s < g.length ∧ f.length = g.length ∧ fv f s = 0 ∧ (∀ x, x < g.length → fv f x = -1 ∨ 0 ≤ fv f x) ∧ (∀ x, x < g.length → 0 ≤ fv f x → ∀ y ∈ row g x, 0 ≤ fv f y ∧ fv f y ≤ fv f x + 1) ∧ (∀ x, x < g.length → 0 ≤ fv f x → (x = s ∧ fv f x = 0) ∨ ∃ y, y < g.length ∧ 0 ≤ fv f y ∧ fv f y + 1 = fv f x ∧ x ∈ row g y)) : Fa g s f := by
  obtain ⟨h1, h2, h3, h4, h5, h6⟩ := h
  refine Fa.of hb h1 h2 h3 h4 (fun x h0 y hy => h5 x (row_lt hy) h0 y hy) (fun x hx h0 => ?_)
  rcases h6 x hx h0 with q | ⟨y, _, q⟩
  · exact .inl q
  · exact .inr ⟨y, q⟩
theorem Pa.chk {g : List (List Nat)} {p : List Nat} (hok : GOk g) (h : p.length = g.length ∧ (∀ x, x < g.length → qa p x = x ∨ x ∈ row (und g) (qa p x)) ∧ (∀ i, i < g.length → ∀ x ∈ row g i, qa p i = qa p x) ∧ ∀ y, y < g.length → qa p y ≤ y) : Pa g p := by
  obtain ⟨h1, h2, h3, h4⟩ := h
  have h3' : ∀ i x, x ∈ row (und g) i → qa p i = qa p x := fun i x hx => by
    rcases (und_mem hok i x).1 hx with q | q
    · exact h3 i (row_lt q) x q
    · exact (h3 x (row_lt q) i q).symm
  have hr : ∀ d y x, Rc (und g) y d x → qa p y = qa p x := by
    intro d
    induction d with
    | zero => intro y x q; cases q; rfl
    | succ d ih => rintro y x ⟨z, q1, q2⟩; rw [ih y z q1]; exact h3' z x q2
  refine ⟨h1, fun x hx => ⟨?_, fun y hy ⟨d, hd⟩ => by rw [← hr d y x hd]; exact h4 y hy⟩⟩
  rcases h2 x hx with q | q
  · rw [q]; exact Re.refl _ x
  · exact ⟨1, rc_one q⟩
theorem sG_far4 : Fa sG 4 [-1, -1, -1, -1, 0, -1] := Fa.chk sG_ok.bdd (by decide)
theorem sG_turn : gturn sG = [[2], [0, 1, 2, 5], [0, 1, 2, 5], [0, 1, 2, 5], [4], [0, 1, 2]] := by decide +kernel
theorem sG_to3 : Fa (gturn sG) 3 [1, 1, 1, 0, -1, 1] := Fa.chk (gturn_ok sG_ok).bdd (by rw [sG_turn]; decide)
theorem sG_to0 : Fa (gturn sG) 0 [0, 2, 1, -1, -1, 2] := Fa.chk (gturn_ok sG_ok).bdd (by rw [sG_turn]; decide)
theorem sG_und : und sG = [[1, 2, 3, 5, 2], [1, 2, 3, 5, 0, 1, 2, 5], [0, 1, 2, 3, 5, 0, 1, 2, 5], [0, 1, 2, 5], [4, 4], [1, 2, 3, 0, 1, 2]] := by unfold und; rw [sG_turn]; decide
theorem sG_parts : Pa sG [0, 0, 0, 0, 4, 0] := Pa.chk sG_ok (by rw [sG_und]; decide)
/-- How far each is from each. -/
def sF (s : Nat) : List Int := ([[0, 1, 1, 1, -1, 1], [2, 0, 1, 1, -1, 1], [1, 1, 0, 1, -1, 1], [-1, -1, -1, 0, -1, -1], [-1, -1, -1, -1, 0, -1], [2, 1, 1, 1, -1, 0]] : List (List Int))[s]?.getD []
theorem sF_ok : ∀ s, s < 6 → Fa sG s (sF s) := by
  intro s hs
  rcases s with _ | _ | _ | _ | _ | _ | s
  · exact Fa.chk sG_ok.bdd (by decide)
  · exact Fa.chk sG_ok.bdd (by decide)
  · exact Fa.chk sG_ok.bdd (by decide)
  · exact Fa.chk sG_ok.bdd (by decide)
  · exact Fa.chk sG_ok.bdd (by decide)
  · exact Fa.chk sG_ok.bdd (by decide)
  · omega
theorem sG_most : MoG sG 2 := by
  refine ⟨by decide, fun s hs F hF x hx => ?_, .inr ⟨1, by decide, 0, by decide, fun F hF => by rw [hF.uniq (sF_ok 1 (by decide))]; decide⟩⟩
  rw [hF.uniq (sF_ok s hs)]
  have : ∀ s, s < 6 → ∀ x, x < 6 → fv (sF s) x ≤ 2 := by decide
  exact this s hs x hx
theorem sG_len (R : List Rw) (h : gs R = sG.map ns) : R.length = 6 := by have := congrArg List.length h; rwa [gs_length] at this
theorem db1 (R : List Rw) (hg : gs R = sG.map ns) (A : Option Addr) (c : Nat) (w : World) (h : RdG w w.heap.size A R) : Calls Try.prog 14 #[.agg #[.slice A 6 c], .int .i64 4] w
    fun e w' => ∃ b, e = .returned (.tuple #[.slice (some ⟨b, 0, none⟩) 6 6, .int .i64 0]) ∧ RdV w' w'.heap.size (some ⟨b, 0, none⟩) (zc [-1, -1, -1, -1, 0, -1]) ∧ Below w.heap.size w w' :=
  (far_ok R sG hg sG_ok 6 (sG_len R hg) 4 (by decide) _ sG_far4 A c w h).mono fun e w' ⟨b, q1, q2⟩ => ⟨b, q1, q2.rd, q2.low⟩
theorem db2 (R : List Rw) (hg : gs R = sG.map ns) (A : Option Addr) (c : Nat) (w : World) (h : RdG w w.heap.size A R) : Calls Try.prog 37 #[.agg #[.slice A 6 c], .int .i64 2, .int .i64 3] w
    fun e w' => ∃ A c, e = .returned (.tuple #[.slice A 2 c, .int .i64 0]) ∧ RdV w' w'.heap.size A (zc (ns [2, 3])) ∧ Below w.heap.size w w' :=
  (way_ok R sG hg sG_ok 6 (sG_len R hg) 2 3 (by decide) (by decide) _ sG_to3 A c w h).mono fun e w' q => by
    rcases q with ⟨q, _⟩ | ⟨k, A, c, q1, q2, q3, q4, _⟩
    · exact absurd q (by decide)
    · obtain rfl : k = 1 := by have : fv [1, 1, 1, 0, -1, 1] 2 = 1 := by decide
                               rw [this] at q1; omega
      have e0 : wayL sG [1, 1, 1, 0, -1, 1] 1 2 = [2, 3] := by decide
      rw [e0] at q3
      exact ⟨A, c, q2, q3, q4⟩
theorem db3 (R : List Rw) (hg : gs R = sG.map ns) (A : Option Addr) (c : Nat) (w : World) (h : RdG w w.heap.size A R) : Calls Try.prog 20 #[.agg #[.slice A 6 c]] w
    fun e w' => ∃ b, e = .returned (.tuple #[.slice (some ⟨b, 0, none⟩) 6 6, .int .i64 0]) ∧ RdV w' w'.heap.size (some ⟨b, 0, none⟩) (zc (ns [0, 0, 0, 0, 4, 0])) ∧ Below w.heap.size w w' :=
  (parts_ok R sG hg sG_ok 6 (sG_len R hg) A c w h).mono fun e w' ⟨b, p, q1, q2, q3⟩ => ⟨b, q1, by rw [q2.uniq sG_parts] at q3; exact q3.rd, q3.low⟩
theorem db4 (R : List Rw) (hg : gs R = sG.map ns) (A : Option Addr) (c : Nat) (w : World) (h : RdG w w.heap.size A R) : Calls Try.prog 21 #[.agg #[.slice A 6 c]] w
    fun e w' => e = .returned (.tuple #[.int .i64 2, .int .i64 0]) ∧ Below w.heap.size w w' :=
  (most_ok R sG hg sG_ok 6 (sG_len R hg) A c w h).mono fun e w' ⟨r, q1, q2, q3⟩ => ⟨by rw [q1, q2.uniq sG_most], q3⟩
theorem db5 (R : List Rw) (hg : gs R = sG.map ns) (A : Option Addr) (c : Nat) (w : World) (h : RdG w w.heap.size A R) : Calls Try.prog 37 #[.agg #[.slice A 6 c], .int .i64 3, .int .i64 0] w
    fun e w' => e = .returned (.tuple #[.slice none 0 0, .int .i64 5]) ∧ Below w.heap.size w w' :=
  (way_ok R sG hg sG_ok 6 (sG_len R hg) 3 0 (by decide) (by decide) _ sG_to0 A c w h).mono fun e w' q => by
    rcases q with ⟨_, q1, q2⟩ | ⟨k, A, c, q1, _⟩
    · exact ⟨q1, q2⟩
    · have : fv [0, 2, 1, -1, -1, 2] 3 = -1 := by decide
      rw [this] at q1; omega
theorem siD (xs : List Int) (n : Nat) (hn : xs.length = n) (h2 : n ≤ 1000) (A : Option Addr) (c : Nat) (V : World) (h : RdV V V.heap.size A (zc xs)) : Calls Try.prog 22 #[.slice A n c, .slice (some ⟨V.heap.size, 0, none⟩) n n] (V.alloc (.cells (zc xs).toArray 3)) fun e w' => e = .returned (.bool true) ∧ Below V.heap.size V w' := by
  have := sameI_any (V.alloc (.cells (zc xs).toArray 3)) A (some ⟨V.heap.size, 0, none⟩) c n xs xs (by omega) (h.on (one_below V _)) (lit_rdv V xs)
  rw [decide_eq_true rfl, hn] at this
  exact this.mono fun e w' q => ⟨q.1, (one_below V _).trans (q.2.mono (by simp))⟩
set_option maxHeartbeats 2000000 in
theorem walkbegun_true (w : World) : Calls Try.prog 15 #[] w fun e w' => e = .returned (.bool true) ∧ Below w.heap.size w w' := by
    have HB : Hid (Below w.heap.size w w) := Below.refl _ w
    go_enter Try.func15, Try.ntmps15
    have HC := Lib.hid (someg_any w)
    go_wp2_with fail
    refine HC.out.mono ?_
    rintro e w1a ⟨A1, R1, c1, rfl, g1, h1, bq⟩
    clear HC
    have HBc := Lib.hid bq; clear bq
    have HBq : Hid (Below w.heap.size w w1a) := HBc.out
    replace HB : Hid (Below w.heap.size w w1a) := HB.out.trans (HBq.out.mono HB.out.size)
    clear HBq
    clear HBc
    have G1 := Lib.hid g1; clear g1
    have H1 : Hid (RdG w1a (w1a).heap.size A1 R1) := h1
    clear h1
    have HC := Lib.hid (db1 R1 G1.out A1 c1 _ H1.out)
    go_wp2_with fail
    refine HC.out.mono ?_
    rintro e w1 ⟨b1, rfl, q1, bq⟩
    clear HC
    have HBc := Lib.hid bq; clear bq
    have HBq : Hid (Below w1a.heap.size w1a w1) := HBc.out
    replace HB : Hid (Below w.heap.size w w1) := HB.out.trans (HBq.out.mono HB.out.size)
    replace H1 : Hid (RdG w1 (w1).heap.size A1 R1) := H1.out.on HBq.out
    clear HBq
    clear HBc
    clear H1 G1
    have Q1 : Hid (RdV w1 (w1).heap.size (some ⟨b1, 0, none⟩) (zc [-1, -1, -1, -1, 0, -1])) := q1
    clear q1
    have HC := Lib.hid (someg_any w1)
    go_wp2_with fail
    refine HC.out.mono ?_
    rintro e w2a ⟨A2, R2, c2, rfl, g2, h2, bq⟩
    clear HC
    have HBc := Lib.hid bq; clear bq
    have HBq : Hid (Below w1.heap.size w1 w2a) := HBc.out
    replace HB : Hid (Below w.heap.size w w2a) := HB.out.trans (HBq.out.mono HB.out.size)
    replace Q1 : Hid (RdV w2a (w2a).heap.size (some ⟨b1, 0, none⟩) (zc [-1, -1, -1, -1, 0, -1])) := Q1.out.on HBq.out
    clear HBq
    clear HBc
    have G2 := Lib.hid g2; clear g2
    have H2 : Hid (RdG w2a (w2a).heap.size A2 R2) := h2
    clear h2
    have HC := Lib.hid (db2 R2 G2.out A2 c2 _ H2.out)
    go_wp2_with fail
    refine HC.out.mono ?_
    rintro e w2 ⟨B2, d2, rfl, q2, bq⟩
    clear HC
    have HBc := Lib.hid bq; clear bq
    have HBq : Hid (Below w2a.heap.size w2a w2) := HBc.out
    replace HB : Hid (Below w.heap.size w w2) := HB.out.trans (HBq.out.mono HB.out.size)
    replace Q1 : Hid (RdV w2 (w2).heap.size (some ⟨b1, 0, none⟩) (zc [-1, -1, -1, -1, 0, -1])) := Q1.out.on HBq.out
    replace H2 : Hid (RdG w2 (w2).heap.size A2 R2) := H2.out.on HBq.out
    clear HBq
    clear HBc
    clear H2 G2
    have Q2 : Hid (RdV w2 (w2).heap.size B2 (zc (ns [2, 3]))) := q2
    clear q2
    have HC := Lib.hid (someg_any w2)
    go_wp2_with fail
    refine HC.out.mono ?_
    rintro e w3a ⟨A3, R3, c3, rfl, g3, h3, bq⟩
    clear HC
    have HBc := Lib.hid bq; clear bq
    have HBq : Hid (Below w2.heap.size w2 w3a) := HBc.out
    replace HB : Hid (Below w.heap.size w w3a) := HB.out.trans (HBq.out.mono HB.out.size)
    replace Q1 : Hid (RdV w3a (w3a).heap.size (some ⟨b1, 0, none⟩) (zc [-1, -1, -1, -1, 0, -1])) := Q1.out.on HBq.out
    replace Q2 : Hid (RdV w3a (w3a).heap.size B2 (zc (ns [2, 3]))) := Q2.out.on HBq.out
    clear HBq
    clear HBc
    have G3 := Lib.hid g3; clear g3
    have H3 : Hid (RdG w3a (w3a).heap.size A3 R3) := h3
    clear h3
    have HC := Lib.hid (db3 R3 G3.out A3 c3 _ H3.out)
    go_wp2_with fail
    refine HC.out.mono ?_
    rintro e w3 ⟨b3, rfl, q3, bq⟩
    clear HC
    have HBc := Lib.hid bq; clear bq
    have HBq : Hid (Below w3a.heap.size w3a w3) := HBc.out
    replace HB : Hid (Below w.heap.size w w3) := HB.out.trans (HBq.out.mono HB.out.size)
    replace Q1 : Hid (RdV w3 (w3).heap.size (some ⟨b1, 0, none⟩) (zc [-1, -1, -1, -1, 0, -1])) := Q1.out.on HBq.out
    replace Q2 : Hid (RdV w3 (w3).heap.size B2 (zc (ns [2, 3]))) := Q2.out.on HBq.out
    replace H3 : Hid (RdG w3 (w3).heap.size A3 R3) := H3.out.on HBq.out
    clear HBq
    clear HBc
    clear H3 G3
    have Q3 : Hid (RdV w3 (w3).heap.size (some ⟨b3, 0, none⟩) (zc (ns [0, 0, 0, 0, 4, 0]))) := q3
    clear q3
    have HC := Lib.hid (someg_any w3)
    go_wp2_with fail
    refine HC.out.mono ?_
    rintro e w4a ⟨A4, R4, c4, rfl, g4, h4, bq⟩
    clear HC
    have HBc := Lib.hid bq; clear bq
    have HBq : Hid (Below w3.heap.size w3 w4a) := HBc.out
    replace HB : Hid (Below w.heap.size w w4a) := HB.out.trans (HBq.out.mono HB.out.size)
    replace Q1 : Hid (RdV w4a (w4a).heap.size (some ⟨b1, 0, none⟩) (zc [-1, -1, -1, -1, 0, -1])) := Q1.out.on HBq.out
    replace Q2 : Hid (RdV w4a (w4a).heap.size B2 (zc (ns [2, 3]))) := Q2.out.on HBq.out
    replace Q3 : Hid (RdV w4a (w4a).heap.size (some ⟨b3, 0, none⟩) (zc (ns [0, 0, 0, 0, 4, 0]))) := Q3.out.on HBq.out
    clear HBq
    clear HBc
    have G4 := Lib.hid g4; clear g4
    have H4 : Hid (RdG w4a (w4a).heap.size A4 R4) := h4
    clear h4
    have HC := Lib.hid (db4 R4 G4.out A4 c4 _ H4.out)
    go_wp2_with fail
    refine HC.out.mono ?_
    rintro e w4 ⟨rfl, bq⟩
    clear HC
    have HBc := Lib.hid bq; clear bq
    have HBq : Hid (Below w4a.heap.size w4a w4) := HBc.out
    replace HB : Hid (Below w.heap.size w w4) := HB.out.trans (HBq.out.mono HB.out.size)
    replace Q1 : Hid (RdV w4 (w4).heap.size (some ⟨b1, 0, none⟩) (zc [-1, -1, -1, -1, 0, -1])) := Q1.out.on HBq.out
    replace Q2 : Hid (RdV w4 (w4).heap.size B2 (zc (ns [2, 3]))) := Q2.out.on HBq.out
    replace Q3 : Hid (RdV w4 (w4).heap.size (some ⟨b3, 0, none⟩) (zc (ns [0, 0, 0, 0, 4, 0]))) := Q3.out.on HBq.out
    replace H4 : Hid (RdG w4 (w4).heap.size A4 R4) := H4.out.on HBq.out
    clear HBq
    clear HBc
    clear H4 G4
    have HC := Lib.hid (someg_any w4)
    go_wp2_with fail
    refine HC.out.mono ?_
    rintro e w5a ⟨A5, R5, c5, rfl, g5, h5, bq⟩
    clear HC
    have HBc := Lib.hid bq; clear bq
    have HBq : Hid (Below w4.heap.size w4 w5a) := HBc.out
    replace HB : Hid (Below w.heap.size w w5a) := HB.out.trans (HBq.out.mono HB.out.size)
    replace Q1 : Hid (RdV w5a (w5a).heap.size (some ⟨b1, 0, none⟩) (zc [-1, -1, -1, -1, 0, -1])) := Q1.out.on HBq.out
    replace Q2 : Hid (RdV w5a (w5a).heap.size B2 (zc (ns [2, 3]))) := Q2.out.on HBq.out
    replace Q3 : Hid (RdV w5a (w5a).heap.size (some ⟨b3, 0, none⟩) (zc (ns [0, 0, 0, 0, 4, 0]))) := Q3.out.on HBq.out
    clear HBq
    clear HBc
    have G5 := Lib.hid g5; clear g5
    have H5 : Hid (RdG w5a (w5a).heap.size A5 R5) := h5
    clear h5
    have HC := Lib.hid (db5 R5 G5.out A5 c5 _ H5.out)
    go_wp2_with fail
    refine HC.out.mono ?_
    rintro e w5 ⟨rfl, bq⟩
    clear HC
    have HBc := Lib.hid bq; clear bq
    have HBq : Hid (Below w5a.heap.size w5a w5) := HBc.out
    replace HB : Hid (Below w.heap.size w w5) := HB.out.trans (HBq.out.mono HB.out.size)
    replace Q1 : Hid (RdV w5 (w5).heap.size (some ⟨b1, 0, none⟩) (zc [-1, -1, -1, -1, 0, -1])) := Q1.out.on HBq.out
    replace Q2 : Hid (RdV w5 (w5).heap.size B2 (zc (ns [2, 3]))) := Q2.out.on HBq.out
    replace Q3 : Hid (RdV w5 (w5).heap.size (some ⟨b3, 0, none⟩) (zc (ns [0, 0, 0, 0, 4, 0]))) := Q3.out.on HBq.out
    replace H5 : Hid (RdG w5 (w5).heap.size A5 R5) := H5.out.on HBq.out
    clear HBq
    clear HBc
    clear H5 G5
    have HC := Lib.hid (siD [-1, -1, -1, -1, 0, -1] 6 rfl (by decide) _ 6 _ Q1.out)
    go_wp2_with fail
    refine HC.out.mono ?_
    rintro e w6 ⟨rfl, bq⟩
    clear HC
    have HBc := Lib.hid bq; clear bq
    have HBq : Hid (Below w5.heap.size w5 w6) := HBc.out
    replace HB : Hid (Below w.heap.size w w6) := HB.out.trans (HBq.out.mono HB.out.size)
    replace Q1 : Hid (RdV w6 (w6).heap.size (some ⟨b1, 0, none⟩) (zc [-1, -1, -1, -1, 0, -1])) := Q1.out.on HBq.out
    replace Q2 : Hid (RdV w6 (w6).heap.size B2 (zc (ns [2, 3]))) := Q2.out.on HBq.out
    replace Q3 : Hid (RdV w6 (w6).heap.size (some ⟨b3, 0, none⟩) (zc (ns [0, 0, 0, 0, 4, 0]))) := Q3.out.on HBq.out
    clear HBq
    clear HBc
    have HC := Lib.hid (siD (ns [2, 3]) 2 rfl (by decide) _ d2 _ Q2.out)
    go_wp2_with fail
    refine HC.out.mono ?_
    rintro e w7 ⟨rfl, bq⟩
    clear HC
    have HBc := Lib.hid bq; clear bq
    have HBq : Hid (Below w6.heap.size w6 w7) := HBc.out
    replace HB : Hid (Below w.heap.size w w7) := HB.out.trans (HBq.out.mono HB.out.size)
    replace Q1 : Hid (RdV w7 (w7).heap.size (some ⟨b1, 0, none⟩) (zc [-1, -1, -1, -1, 0, -1])) := Q1.out.on HBq.out
    replace Q2 : Hid (RdV w7 (w7).heap.size B2 (zc (ns [2, 3]))) := Q2.out.on HBq.out
    replace Q3 : Hid (RdV w7 (w7).heap.size (some ⟨b3, 0, none⟩) (zc (ns [0, 0, 0, 0, 4, 0]))) := Q3.out.on HBq.out
    clear HBq
    clear HBc
    have HC := Lib.hid (siD (ns [0, 0, 0, 0, 4, 0]) 6 rfl (by decide) _ 6 _ Q3.out)
    go_wp2_with fail
    refine HC.out.mono ?_
    rintro e w8 ⟨rfl, bq⟩
    clear HC
    have HBc := Lib.hid bq; clear bq
    have HBq : Hid (Below w7.heap.size w7 w8) := HBc.out
    replace HB : Hid (Below w.heap.size w w8) := HB.out.trans (HBq.out.mono HB.out.size)
    replace Q1 : Hid (RdV w8 (w8).heap.size (some ⟨b1, 0, none⟩) (zc [-1, -1, -1, -1, 0, -1])) := Q1.out.on HBq.out
    replace Q2 : Hid (RdV w8 (w8).heap.size B2 (zc (ns [2, 3]))) := Q2.out.on HBq.out
    replace Q3 : Hid (RdV w8 (w8).heap.size (some ⟨b3, 0, none⟩) (zc (ns [0, 0, 0, 0, 4, 0]))) := Q3.out.on HBq.out
    clear HBq
    clear HBc
    go_wp2
    go_ret
    exact ⟨rfl, HB.out⟩
end

section
set_option maxRecDepth 100000
set_option linter.unusedVariables false
open Go.RowKit Go.Shelf

theorem gturn_memD {g : List (List Nat)} (hok : GOk g) (i x : Nat) : x ∈ row (gturn g) i ↔ i ∈ row g x := by
  by_cases h : i < g.length
  · exact gturn_mem h
  · rw [row_out (by rw [gturn_length]; omega)]
    exact ⟨fun q => by simp at q, fun q => absurd (hok.bdd x i q) h⟩
theorem und_turn {g : List (List Nat)} (hok : GOk g) (i x : Nat) : x ∈ row (und (gturn g)) i ↔ x ∈ row (und g) i := by
  rw [und_mem (gturn_ok hok), und_mem hok, gturn_memD hok, gturn_memD hok]
  exact Or.comm
theorem und_sym {g : List (List Nat)} (hok : GOk g) (i x : Nat) : x ∈ row (und g) i ↔ i ∈ row (und g) x := by
  rw [und_mem hok, und_mem hok]; exact Or.comm
theorem re_sym {g : List (List Nat)} (hok : GOk g) {x y : Nat} (h : Re (und g) x y) : Re (und g) y x := by
  obtain ⟨d, hd⟩ := h
  exact ⟨d, rc_rev (fun i z q => (und_sym hok i z).1 q) d x y hd⟩
theorem re_trans {g : List (List Nat)} {x y z : Nat} (h : Re g x y) (k : Re g y z) : Re g x z := by
  obtain ⟨a, ha⟩ := h
  obtain ⟨b, hb⟩ := k
  exact ⟨a + b, rc_trans a b z ha hb⟩
theorem Pa.turn {g : List (List Nat)} (hok : GOk g) {p : List Nat} (h : Pa (gturn g) p) : Pa g p := by
  have e : ∀ y x, Re (und (gturn g)) y x ↔ Re (und g) y x := fun y x =>
    ⟨fun ⟨d, hd⟩ => ⟨d, rc_mono (fun i z q => (und_turn hok i z).1 q) d x hd⟩, fun ⟨d, hd⟩ => ⟨d, rc_mono (fun i z q => (und_turn hok i z).2 q) d x hd⟩⟩
  refine ⟨by rw [h.len, gturn_length], fun x hx => ?_⟩
  obtain ⟨h1, h2⟩ := h.val x (by rw [gturn_length]; exact hx)
  exact ⟨(e _ _).1 h1, fun y hy hr => h2 y (by rw [gturn_length]; exact hy) ((e _ _).2 hr)⟩
/-- Two nodes are of one part just if a way leads between them. -/
theorem Pa.same {g : List (List Nat)} (hok : GOk g) {p : List Nat} (h : Pa g p) {x y : Nat} (hx : x < g.length) (hy : y < g.length) : qa p x = qa p y ↔ Re (und g) x y := by
  obtain ⟨a1, a2⟩ := h.val x hx
  obtain ⟨b1, b2⟩ := h.val y hy
  constructor
  · intro e
    rw [← e] at b1
    exact re_trans (re_sym hok a1) b1
  · intro r
    have l1 := a2 (qa p y) (Nat.lt_of_le_of_lt (h.lt y hy) hy) (re_trans b1 (re_sym hok r))
    have l2 := b2 (qa p x) (Nat.lt_of_le_of_lt (h.lt x hx) hx) (re_trans a1 r)
    omega
theorem Pa.idem {g : List (List Nat)} (hok : GOk g) {p : List Nat} (h : Pa g p) {x : Nat} (hx : x < g.length) : qa p (qa p x) = qa p x :=
  (h.same hok (Nat.lt_of_le_of_lt (h.lt x hx) hx) hx).2 (h.val x hx).1
theorem Fa.turn {g : List (List Nat)} (hok : GOk g) {s t : Nat} (hs : s < g.length) (ht : t < g.length) {F K : List Int} (hF : Fa g s F) (hK : Fa (gturn g) t K) : fv F t = fv K s := by
  have r1 : ∀ d, Rc g s d t → Rc (gturn g) t d s := fun d => rc_rev (fun i x q => (gturn_memD hok x i).2 q) d s t
  have r2 : ∀ d, Rc (gturn g) t d s → Rc g s d t := fun d => rc_rev (fun i x q => (gturn_memD hok i x).1 q) d t s
  rcases hF.val t ht with ⟨a1, a2⟩ | ⟨d, a1, a2, a3⟩
  · rcases hK.val s (by rw [gturn_length]; exact hs) with ⟨b1, b2⟩ | ⟨e, b1, b2, b3⟩
    · rw [a1, b1]
    · exact absurd (r2 e b2) (a2 e)
  · rcases hK.val s (by rw [gturn_length]; exact hs) with ⟨b1, b2⟩ | ⟨e, b1, b2, b3⟩
    · exact absurd (r1 d a2) (b2 d)
    · have := a3 e (r2 e b2); have := b3 d (r1 d a2)
      rw [a1, b1]; omega
theorem MoG.turn {g : List (List Nat)} (hok : GOk g) {r : Int} (h : MoG g r) : MoG (gturn g) r := by
  refine ⟨h.1, fun s hs F hF x hx => ?_, ?_⟩
  · rw [gturn_length] at hs hx
    obtain ⟨K, hK⟩ := fa_ex g x
    rw [← Fa.turn hok hx hs hK hF]
    exact h.2.1 x hx K hK s hs
  · rcases h.2.2 with ⟨h0, e⟩ | ⟨s, hs, x, hx, hq⟩
    · exact .inl ⟨by rw [gturn_length]; exact h0, e⟩
    · refine .inr ⟨x, by rw [gturn_length]; exact hx, s, by rw [gturn_length]; exact hs, fun F hF => ?_⟩
      obtain ⟨K, hK⟩ := fa_ex g s
      rw [← Fa.turn hok hs hx hK hF]
      exact hq K hK
/-- Far answers something, whatever it is handed. -/
theorem far_tot (R : List Rw) (N : Nat) (hN : R.length = N) (hN2 : N ≤ 140737488355328) (s : Int) (A : Option Addr) (c : Nat) (w : World) (h : RdG w w.heap.size A R) :
    Calls Try.prog 14 #[.agg #[.slice A N c], .int .i64 s] w fun e w' => ∃ A n c e1, e = .returned (.tuple #[.slice A n c, .int .i64 e1]) ∧ (e1 == 0) = decide (cnE (gs R) [s] = 0) ∧ Below w.heap.size w w' := by
  by_cases e0 : cnE (gs R) [s] = 0
  · obtain ⟨h0, h1⟩ := cnE_zero e0
    obtain ⟨g, hg, hok⟩ := grE_zero _ h0
    have h2 := h1 s (by simp)
    rw [gs_length, hN] at h2
    obtain ⟨k, rfl⟩ := Int.eq_ofNat_of_zero_le h2.1
    obtain ⟨F, hF⟩ := fa_ex g k
    refine (far_ok R g hg hok N hN k (by omega) F hF A c w h).mono fun e w' ⟨b, q1, q2⟩ => ⟨_, _, _, _, q1, ?_, q2.low⟩
    rw [decide_eq_true e0]; rfl
  · refine (far_e R N hN hN2 s _ rfl e0 A c w h).mono fun e w' ⟨q1, q2⟩ => ⟨_, _, _, _, q1, ?_, q2⟩
    rw [decide_eq_false e0]; simpa using e0
/-- A list of numbers reads at each place. -/
theorem rdv_at {w : World} {b N : Nat} {xs : List Int} (h : RdV w w.heap.size (some ⟨b, 0, none⟩) (zc xs)) (x : Nat) (hx : x < xs.length) : w.cell? ⟨b, x, none⟩ = some (.int .i64 (fv xs x)) := by
  obtain ⟨b', o', e, _, hc⟩ := h.at_ (fv_get xs x hx)
  simp only [Option.some.injEq, Addr.mk.injEq, and_true] at e
  obtain ⟨rfl, rfl⟩ := e
  rw [Nat.zero_add] at hc; exact hc
theorem fv_ns (l : List Nat) (x : Nat) (hx : x < l.length) : fv (ns l) x = (qa l x : Int) := by
  unfold fv ns; rw [List.getElem?_map, qa_eq hx]; rfl
end
end Go.Proofs.Ytnbjhldpadjgfaa
