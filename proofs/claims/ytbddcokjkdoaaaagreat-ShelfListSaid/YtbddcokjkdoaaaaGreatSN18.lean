/- Texts of this proof, one behind the other; each fact names its conditions. -/
import Derived.Test.YtbddcokjkdoaaaaGreatSN17
import Derived.Test.YtbddcokjkdoaaaaGreatSN11
import Derived.Test.YtbddcokjkdoaaaaGreatSN10
import Derived.BigQuiet
namespace Go.Proofs.YtbddcokjkdoaaaaGreat
set_option maxRecDepth 100000
set_option linter.unusedVariables false
open Go.RowKit Go.Shelf
theorem wp_put {P : Program} {c : Go.Code} {Q : Exit → Act → World → Prop} {a : Act} {v : Value} {w : World} {d d' : Option Tmp} (h : d = d') (hw : c.wp P Q (a.put d' v) w) : c.wp P Q (a.put d v) w := h ▸ hw
def StX (V0 : World) (P : Nat) (o : Obj) (C : List Bool) (A5 : Option Addr) (c5 : Nat) (X : World) (K : Nat) : Prop :=
  X.heap[K]? = some (.cells #[.int .i64 (C.length : Int), .slice A5 (pack C).length c5] 27 (0, 0)) ∧ Rd X X.heap.size A5 (pack C) ∧ Below V0.heap.size V0 X ∧ X.heap[P]? = some o
theorem st_a {V0 w5 : World} {P : Nat} {o : Obj} {C : List Bool} {A5 : Option Addr} {c5 : Nat} (hR : Rd w5 w5.heap.size A5 (pack C)) (hk : Below V0.heap.size V0 w5) (hP : P < V0.heap.size) (hp : V0.heap[P]? = some o) :
    StX V0 P o C A5 c5 (w5.alloc (.cells #[.int .i64 (C.length : Int), .slice A5 (pack C).length c5] 27)) w5.heap.size := by
  have hb : Below w5.heap.size w5 (w5.alloc (.cells #[.int .i64 (C.length : Int), .slice A5 (pack C).length c5] 27)) := one_below w5 _
  have hb2 : Below V0.heap.size V0 (w5.alloc (.cells #[.int .i64 (C.length : Int), .slice A5 (pack C).length c5] 27)) := hk.trans (hb.mono hk.size)
  exact ⟨World.alloc_heap_new w5 _, hR.on hb, hb2, (hb2.block P hP).trans hp⟩
theorem st_b {V0 w5 : World} {P : Nat} {o : Obj} {C : List Bool} {A5 : Option Addr} {c5 : Nat} (hq : w5.heap[V0.heap.size]? = some (.cells #[.int .i64 0, .slice none 0 0] 27 (0, 0))) (hR : Rd w5 w5.heap.size A5 (pack C)) (hk : Below V0.heap.size V0 w5) (hP : P < V0.heap.size) (hp : V0.heap[P]? = some o) :
    StX V0 P o C A5 c5 ((w5.setCell ⟨V0.heap.size, 0, none⟩ (.int .i64 (C.length : Int))).setCell ⟨V0.heap.size, 1, none⟩ (.slice A5 (pack C).length c5)) V0.heap.size := by
  have hr2 : (w5.setCell ⟨V0.heap.size, 0, none⟩ (.int .i64 (C.length : Int))).heap[V0.heap.size]? = some (.cells #[.int .i64 (C.length : Int), .slice none 0 0] 27 (0, 0)) := by
    rw [heap_set_same _ _ _ _ 27 _ hq]; simp
  have hr3 : ((w5.setCell ⟨V0.heap.size, 0, none⟩ (.int .i64 (C.length : Int))).setCell ⟨V0.heap.size, 1, none⟩ (.slice A5 (pack C).length c5)).heap[V0.heap.size]? = some (.cells #[.int .i64 (C.length : Int), .slice A5 (pack C).length c5] 27 (0, 0)) := by
    rw [heap_set_same _ _ _ _ 27 _ hr2]; simp
  have e : ((w5.setCell ⟨V0.heap.size, 0, none⟩ (.int .i64 (C.length : Int))).setCell ⟨V0.heap.size, 1, none⟩ (.slice A5 (pack C).length c5)).heap.size = w5.heap.size := by simp [World.setCell]
  have hb2 : Below V0.heap.size V0 ((w5.setCell ⟨V0.heap.size, 0, none⟩ (.int .i64 (C.length : Int))).setCell ⟨V0.heap.size, 1, none⟩ (.slice A5 (pack C).length c5)) := (hk.setCell (p := ⟨V0.heap.size, 0, none⟩) (Nat.le_refl _) _).setCell (p := ⟨V0.heap.size, 1, none⟩) (Nat.le_refl _) _
  exact ⟨hr3, by rw [e]; exact (hR.setK _ hq).setK _ hr2, hb2, (hb2.block P hP).trans hp⟩
theorem st_cells {V0 : World} {P : Nat} {b C : List Bool} {Ab A5 : Option Addr} {cb c5 : Nat} {e : Int} {X : World} {K : Nat} (h : StX V0 P (.cells #[.int .i64 (b.length : Int), .slice Ab (pack b).length cb, .int .i64 e] 88 (0, 0)) C A5 c5 X K) :
    Rd X X.heap.size A5 (pack C) ∧ Below V0.heap.size V0 X ∧ X.cell? ⟨K, 1, none⟩ = some (.slice A5 (pack C).length c5) ∧ X.cell? ⟨P, 1, none⟩ = some (.slice Ab (pack b).length cb) ∧ X.cell? ⟨P, 2, none⟩ = some (.int .i64 e) := by
  obtain ⟨hx, hc, hb6, hp6⟩ := h
  exact ⟨hc, hb6, (cell_at hx _).trans rfl, (cell_at hp6 _).trans rfl, (cell_at hp6 _).trans rfl⟩
set_option maxHeartbeats 8000000 in
theorem stands_any (P : Nat) (l : List Bool) (L : List Bool) (hL : L.length ≤ 8192) (A : Option Addr) (c s : Nat) (hs : s ≤ L.length) (w : World) (hW : WC w P l) (hR : Rd w w.heap.size A (pack L)) :
    Calls Tryz.prog 103 #[.pointer (some ⟨P, 0, none⟩), .agg #[.int .i64 (L.length : Int), .slice A (pack L).length c], .int .i64 (s : Int)] w fun e w' => e = .returned (.bool (decide ((L.drop s).take l.length = l))) ∧ Below w.heap.size w w' := by
  obtain ⟨b, Ab, cb, e, hP, hRb, hcase⟩ := hW
  have hPs : P < w.heap.size := (Array.getElem?_eq_some_iff.1 hP).1
  obtain ⟨V0, hV⟩ : ∃ V0, w.alloc (.cells #[.int .i64 (L.length : Int), .slice A (pack L).length c] 27) = V0 := ⟨_, rfl⟩
  have hB0 : Below w.heap.size w V0 := hV ▸ one_below w _
  have hBx : V0.heap[w.heap.size]? = some (.cells #[.int .i64 (L.length : Int), .slice A (pack L).length c] 27 (0, 0)) := hV ▸ World.alloc_heap_new w _
  have hz : w.heap.size < V0.heap.size := (Array.getElem?_eq_some_iff.1 hBx).1
  have hP0 : V0.heap[P]? = some (.cells #[.int .i64 (b.length : Int), .slice Ab (pack b).length cb, .int .i64 e] 88 (0, 0)) := (hB0.block P hPs).trans hP
  have hR0 : Rd V0 V0.heap.size A (pack L) := hR.on hB0
  have hRb0 : Rd V0 V0.heap.size Ab (pack b) := hRb.on hB0
  have HB0 := Lib.hid hB0
  have k0 : V0.cell? ⟨P, 0, none⟩ = some (.int .i64 (b.length : Int)) := (cell_at hP0 _).trans rfl
  have m0 : V0.cell? ⟨w.heap.size, 0, none⟩ = some (.int .i64 (L.length : Int)) := (cell_at hBx _).trans rfl
  have m1 : V0.cell? ⟨w.heap.size, 1, none⟩ = some (.slice A (pack L).length c) := (cell_at hBx _).trans rfl
  have HP0 := Lib.hid hP0
  have hPs0 : P < V0.heap.size := Nat.lt_of_lt_of_le hPs hB0.size
  obtain ⟨C, er, hC⟩ : ∃ (C : List Bool) (er : Int), C = (if cutE (L.length : Int) (pack L) (s : Int) (IntKind.i64.wrap ((s : Int) + (b.length : Int))) = 0 then ((unpack (L.length : Int).toNat (pack L)).drop (s : Int).toNat).take ((IntKind.i64.wrap ((s : Int) + (b.length : Int))).toNat - (s : Int).toNat) else []) ∧ er = cutE (L.length : Int) (pack L) (s : Int) (IntKind.i64.wrap ((s : Int) + (b.length : Int))) := ⟨_, _, rfl, rfl⟩
  have HCut : Hid (∀ V, Below V0.heap.size V0 V → Calls Tryz.prog 35 #[.agg #[.int .i64 (L.length : Int), .slice A (pack L).length c], .int .i64 (s : Int), .int .i64 (IntKind.i64.wrap ((s : Int) + (b.length : Int)))] V (Gave V C er)) := fun V hV => by
    rw [hC.1, hC.2]; exact cut_any _ A c (pack L) _ _ V (pack_lt L) (hR0.on hV)
  have HRes : Hid ((e = 0 → er = 0 → decide (pack C = pack b) = decide ((L.drop s).take l.length = l)) ∧ (e = 0 → er ≠ 0 → decide ((L.drop s).take l.length = l) = false) ∧ (e ≠ 0 → decide ((L.drop s).take l.length = l) = false)) := stands_res L hL l b e s hs hcase C er hC
  generalize decide ((L.drop s).take l.length = l) = res at *
  have HRb0 := Lib.hid hRb0
  have HPz := Lib.hid hPs0
  clear hcase hC hP hRb hB0 hBx hP0 hR0 hRb0 hR
  go_enter Tryz.func103, Tryz.ntmps103
  go_wp2_with fail
  go_region_with (first
    | (go_at_call 35; refine (HCut.out V0.drew (Below.refl _ V0).drew).mono ?_; rintro e2 w5 ⟨A5, c5, rfl, r5, B5⟩; have hk1 : Hid (Below V0.heap.size V0 w5) := ((Below.refl _ V0).drew).trans B5; have hr5 := Lib.hid r5; have hp5 := (hk1.out.block P hPs0).trans HP0.out; have HP5 := Lib.hid hp5; clear B5 r5 hp5)
    | (go_at_call 35; refine (HCut.out (V0.alloc (.cells #[.int .i64 0, .slice none 0 0] 27)).drew (one_below V0 _).drew).mono ?_; rintro e2 w5 ⟨A5, c5, rfl, r5, B5⟩; have hk1 : Hid (Below V0.heap.size V0 w5) := ((one_below V0 _).drew).trans (B5.mono (by show _ ≤ (V0.alloc _).heap.size; simp)); have hr5 := Lib.hid r5; have hq5 : w5.heap[V0.heap.size]? = some (.cells #[.int .i64 0, .slice none 0 0] 27 (0, 0)) := (B5.block _ (by show _ < (V0.alloc _).heap.size; simp)).trans (World.alloc_heap_new V0 _); have n0 := frz_at hq5 0; have n1 := frz_at hq5 1; have o0 : w5.cell? ⟨V0.heap.size, 0, none⟩ = some (.int .i64 0) := (cell_at hq5 _).trans rfl; have o1 : w5.cell? ⟨V0.heap.size, 1, none⟩ = some (.slice none 0 0) := (cell_at hq5 _).trans rfl; have HQ5 := Lib.hid hq5; have hp5 := (hk1.out.block P hPs0).trans HP0.out; have HP5 := Lib.hid hp5; clear B5 r5 hp5 hq5))
  all_goals (
    first
      | (have hX6 := st_b (c5 := c5) HQ5.out hr5.out hk1.out HPz.out HP0.out
         generalize (w5.setCell ⟨V0.heap.size, 0, none⟩ (.int .i64 (C.length : Int))).setCell ⟨V0.heap.size, 1, none⟩ (.slice A5 (pack C).length c5) = X6 at hX6 ⊢
         clear HQ5 n0 n1 o0 o1)
      | (have hX6 := st_a (c5 := c5) hr5.out hk1.out HPz.out HP0.out
         generalize w5.alloc (.cells #[.int .i64 (C.length : Int), .slice A5 (pack C).length c5] 27) = X6 at hX6 ⊢)
    obtain ⟨hc, hb6, j1, y1, y2⟩ := st_cells hX6
    have HRc := Lib.hid hc
    have HRd := Lib.hid (HRb0.out.on hb6)
    have HB6 := Lib.hid (HB0.out.trans (hb6.mono HB0.out.size))
    have HEq := Lib.hid (fun (V : World) (hc : Rd V V.heap.size A5 (pack C)) (hd : Rd V V.heap.size Ab (pack b)) => beq_any (pack C) (pack b) _ _ rfl rfl (pack_lt C) (pack_lt b) A5 Ab c5 cb V _ _ hc hd)
    clear hc hb6 hX6 k0 m0 m1 hk1 hr5 HP5
    by_cases he : e = 0
    · by_cases her : er = 0
      · have t1 : (e == 0) = true := by simpa using he
        have t2 : (er == 0) = true := by simpa using her
        have hr := HRes.out.1 he her
        rw [hr] at HEq
        clear hr he her HCut HRes
        go_wp2_with fail
        rename_i hKK
        have HKK := Lib.hid hKK
        clear hKK
        refine wp_put (d' := some 8) (by kernel_rfl) ?_
        simp only [Act.put, List.setIfInBounds_toArray, List.set_cons_zero, List.set_cons_succ]
        go_quiet ((go_at_call 152; exact Calls.quiet_of_same (HEq.out _ HRc.out HRd.out)))
        refine HKK.out _ _ ?_
        clear HKK
        go_wp2
        go_ret
        exact ⟨rfl, below_drewN HB6.out _⟩
      · have t1 : (e == 0) = true := by simpa using he
        have t2 : (er == 0) = false := by simpa using her
        have hr := HRes.out.2.1 he her
        clear he her HCut HRes HEq
        go_wp2_with fail
        rename_i hKK
        have HKK := Lib.hid hKK
        clear hKK
        refine wp_put (d' := some 8) (by kernel_rfl) ?_
        simp only [Act.put, List.setIfInBounds_toArray, List.set_cons_zero, List.set_cons_succ]
        go_quiet (fail)
        refine HKK.out _ _ ?_
        clear HKK
        go_wp2
        go_ret
        exact ⟨by rw [hr]; rfl, below_drewN HB6.out _⟩
    · have t1 : (e == 0) = false := by simpa using he
      have hr := HRes.out.2.2 he
      clear he HCut HRes HEq
      go_wp2_with fail
      rename_i hKK
      have HKK := Lib.hid hKK
      clear hKK
      refine wp_put (d' := some 8) (by kernel_rfl) ?_
      simp only [Act.put, List.setIfInBounds_toArray, List.set_cons_zero, List.set_cons_succ]
      go_quiet (fail)
      refine HKK.out _ _ ?_
      clear HKK
      go_wp2
      go_ret
      exact ⟨by rw [hr]; rfl, below_drewN HB6.out _⟩)
end Go.Proofs.YtbddcokjkdoaaaaGreat
