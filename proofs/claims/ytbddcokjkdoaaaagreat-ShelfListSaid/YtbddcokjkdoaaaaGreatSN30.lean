/- Texts of this proof, one behind the other; each fact names its conditions. -/
import Derived.Test.YtbddcokjkdoaaaaGreatSN24
import Derived.Test.YtbddcokjkdoaaaaGreatSN29
namespace Go.Proofs.YtbddcokjkdoaaaaGreat
set_option maxRecDepth 100000
set_option linter.unusedVariables false
open Go.RowKit Go.Shelf
theorem rd_stored {W : World} {b : Nat} {t : TypeId} {cs vs : List Value} (h : W.heap[b]? = some (.cells cs.toArray t (0, 0))) (n : vs.length = cs.length) (hx : ∀ v ∈ cs, ∀ x, v ≠ .int .u8 x) {A : Option Addr} {bs : List Nat} (r : Rd W W.heap.size A bs) : Rd (W.setCells b 0 vs) (W.setCells b 0 vs).heap.size A bs := by
  obtain ⟨-, ho, hs, -⟩ := stored_all vs h n
  rcases r with r | ⟨g, off, rfl, hg, hc⟩
  · exact .inl r
  · refine .inr ⟨g, off, rfl, by rw [hs]; exact hg, fun i hi => ?_⟩
    have h1 := hc i hi
    have hne : g ≠ b := by
      rintro rfl
      have h2 := h1
      rw [cell_at h] at h2
      exact hx _ (List.mem_of_getElem? (by simpa using h2)) _ rfl
    exact (World.cell?_of_block (w := W) (a := ⟨g, off + i, none⟩) (ho g hne)).trans h1
theorem st_new (T : TypeId) (zs vs : List Value) (n : Nat) (hn : zs.length = n) (hl : vs.length = n) (w : World) : ∃ X, (w.alloc (.cells zs.toArray T)).setCells w.heap.size 0 vs = X ∧ (w.alloc (.cells zs.toArray T)).there w.heap.size 0 n ∧ X.heap[w.heap.size]? = some (.cells vs.toArray T (0, 0)) ∧ Below w.heap.size w X ∧ w.heap.size < X.heap.size := by
  have hz := World.alloc_heap_new w (.cells zs.toArray T)
  obtain ⟨h8, -, hs, hb⟩ := stored_all vs hz (by omega)
  exact ⟨_, rfl, there_all hz hn, h8, (one_below w _).trans (hb _ (Nat.le_refl _)), by rw [hs, World.size_alloc]; omega⟩
theorem shal3 (w : World) (o1 o2 o3 : Obj) : ∃ w1, ((w.alloc o1).alloc o2).alloc o3 = w1 ∧ w1.heap.size = w.heap.size + 3 ∧ Below w.heap.size w w1 ∧ w1.heap[w.heap.size]? = some o1 ∧ w1.heap[w.heap.size + 1]? = some o2 ∧ w1.heap[w.heap.size + 1 + 1]? = some o3 := by
  obtain ⟨w1, ew1⟩ : ∃ w1, ((w.alloc o1).alloc o2).alloc o3 = w1 := ⟨_, rfl⟩
  refine ⟨w1, ew1, by rw [← ew1]; simp [World.size_alloc], ?_, ?_, ?_, ?_⟩
  · rw [← ew1]
    exact (one_below w _).trans (((one_below _ _).mono (by rw [World.size_alloc]; omega)).trans ((one_below _ _).mono (by rw [World.size_alloc, World.size_alloc]; omega)))
  · rw [← ew1, (one_below _ _).block _ (by rw [World.size_alloc, World.size_alloc]; omega), (one_below _ _).block _ (by rw [World.size_alloc]; omega)]; exact World.alloc_heap_new w _
  · rw [← ew1, (one_below _ _).block _ (by rw [World.size_alloc, World.size_alloc]; omega)]
    have := World.alloc_heap_new (w.alloc o1) o2
    rwa [World.size_alloc] at this
  · rw [← ew1]
    have := World.alloc_heap_new ((w.alloc o1).alloc o2) o3
    rwa [World.size_alloc, World.size_alloc] at this
theorem shal2 (w : World) (o1 o2 : Obj) : ∃ w1, (w.alloc o1).alloc o2 = w1 ∧ w1.heap.size = w.heap.size + 2 ∧ Below w.heap.size w w1 ∧ w1.heap[w.heap.size]? = some o1 ∧ w1.heap[w.heap.size + 1]? = some o2 := by
  obtain ⟨w1, ew1⟩ : ∃ w1, (w.alloc o1).alloc o2 = w1 := ⟨_, rfl⟩
  refine ⟨w1, ew1, by rw [← ew1]; simp [World.size_alloc], ?_, ?_, ?_⟩
  · rw [← ew1]
    exact (one_below w _).trans ((one_below _ _).mono (by rw [World.size_alloc]; omega))
  · rw [← ew1, (one_below _ _).block _ (by rw [World.size_alloc]; omega)]; exact World.alloc_heap_new w _
  · rw [← ew1]
    have := World.alloc_heap_new (w.alloc o1) o2
    rwa [World.size_alloc] at this
set_option maxHeartbeats 4000000 in
theorem sfn_w (N T k ll lh N' T' k' ll' lh' : Int) (A1 A2 B1 B2 : Option Addr) (n1 c1 n2 c2 m1 d1 m2 d2 : Nat) (q1 q2 r : Bool) (w : World) (hr : (decide (N = N') && decide (T = T') && decide (k = k') && q1 && q2) = r)
    (H1 : Hid (∀ V, Below w.heap.size w V → Calls Tryz.prog 118 #[.agg #[.int .i64 ll, .slice A1 n1 c1], .agg #[.int .i64 ll', .slice B1 m1 d1]] V fun e w' => e = .returned (.bool q1) ∧ Below V.heap.size V w'))
    (H2 : Hid (∀ V, Below w.heap.size w V → Calls Tryz.prog 118 #[.agg #[.int .i64 lh, .slice A2 n2 c2], .agg #[.int .i64 lh', .slice B2 m2 d2]] V fun e w' => e = .returned (.bool q2) ∧ Below V.heap.size V w')) :
    Calls Tryz.prog 86 #[.agg #[.int .i64 N, .int .i64 T, .int .i64 k, .int .i64 ll, .slice A1 n1 c1, .int .i64 lh, .slice A2 n2 c2], .agg #[.int .i64 N', .int .i64 T', .int .i64 k', .int .i64 ll', .slice B1 m1 d1, .int .i64 lh', .slice B2 m2 d2]] w fun e w' => e = .returned (.bool r) ∧ Below w.heap.size w w' := by
  obtain ⟨w1, ew1, s1, hb1, g1, g2⟩ := shal2 w (.cells #[.int .i64 N, .int .i64 T, .int .i64 k, .int .i64 ll, .slice A1 n1 c1, .int .i64 lh, .slice A2 n2 c2] 65) (.cells #[.int .i64 N', .int .i64 T', .int .i64 k', .int .i64 ll', .slice B1 m1 d1, .int .i64 lh', .slice B2 m2 d2] 65)
  obtain ⟨x0, x1, x2, x3, x4, x5, x6⟩ := (cells7 g1).1
  obtain ⟨y0, y1, y2, y3, y4, y5, y6⟩ := (cells7 g2).1
  have HB1 := Lib.hid hb1
  have HG : Hid (∀ V, Below w1.heap.size w1 V → V.heap[w.heap.size]? = some (.cells #[.int .i64 N, .int .i64 T, .int .i64 k, .int .i64 ll, .slice A1 n1 c1, .int .i64 lh, .slice A2 n2 c2] 65 (0, 0)) ∧ V.heap[w.heap.size + 1]? = some (.cells #[.int .i64 N', .int .i64 T', .int .i64 k', .int .i64 ll', .slice B1 m1 d1, .int .i64 lh', .slice B2 m2 d2] 65 (0, 0))) := fun V hV => ⟨(hV.block _ (by omega)).trans g1, (hV.block _ (by omega)).trans g2⟩
  clear hb1 s1 g1 g2
  have HR := Lib.hid hr
  clear hr
  go_enter Tryz.func86, Tryz.ntmps86
  by_cases h1 : N = N'
  case neg =>
    have t1 : (N == N') = false := by simpa using h1
    obtain rfl : r = false := by rw [← HR.out, decide_eq_false h1]; rfl
    clear h1
    go_wp2
    go_ret
    exact ⟨rfl, by first | exact HB1.out | (rw [ew1]; exact HB1.out)⟩
  subst h1
  by_cases h2 : T = T'
  case neg =>
    have t1 : (T == T') = false := by simpa using h2
    obtain rfl : r = false := by rw [← HR.out, decide_eq_false h2, Bool.and_false]; rfl
    clear h2
    go_wp2
    go_ret
    exact ⟨rfl, by first | exact HB1.out | (rw [ew1]; exact HB1.out)⟩
  subst h2
  by_cases h3 : k = k'
  case neg =>
    have t1 : (k == k') = false := by simpa using h3
    obtain rfl : r = false := by rw [← HR.out, decide_eq_false h3, Bool.and_false]; rfl
    clear h3
    go_wp2
    go_ret
    exact ⟨rfl, by first | exact HB1.out | (rw [ew1]; exact HB1.out)⟩
  subst h3
  obtain rfl : r = (q1 && q2) := by rw [← HR.out, decide_eq_true rfl, decide_eq_true rfl, decide_eq_true rfl]; simp
  clear HR
  go_wp2_with fail
  try rw [ew1]
  refine (H1.out w1 HB1.out).mono ?_
  rintro e w2 ⟨rfl, p2⟩
  have HB2 : Hid (Below w.heap.size w w2) := HB1.out.trans (p2.mono HB1.out.size)
  obtain ⟨g1, g2⟩ := HG.out w2 p2
  clear x0 x1 x2 x3 x4 x5 x6 y0 y1 y2 y3 y4 y5 y6 p2 ew1
  obtain ⟨x0, x1, x2, x3, x4, x5, x6⟩ := (cells7 g1).1
  obtain ⟨y0, y1, y2, y3, y4, y5, y6⟩ := (cells7 g2).1
  clear g1 g2
  cases q1 with
  | false =>
    go_wp2
    go_ret
    exact ⟨rfl, HB2.out⟩
  | true =>
    go_wp2_with fail
    refine (H2.out w2 HB2.out).mono ?_
    rintro e w3 ⟨rfl, p3⟩
    have HB3 : Hid (Below w.heap.size w w3) := HB2.out.trans (p3.mono HB2.out.size)
    clear p3
    go_wp2
    go_ret
    exact ⟨by simp, HB3.out⟩
theorem sfn_any (N T k ll lh N' T' k' ll' lh' : Int) (A1 A2 B1 B2 : Option Addr) (c1 c2 d1 d2 : Nat) (b1 b2 e1 e2 : List Nat) (h1 : ∀ x ∈ b1, x < 256) (h2 : ∀ x ∈ b2, x < 256) (h3 : ∀ x ∈ e1, x < 256) (h4 : ∀ x ∈ e2, x < 256) (w : World)
    (r1 : Rd w w.heap.size A1 b1) (r2 : Rd w w.heap.size A2 b2) (r3 : Rd w w.heap.size B1 e1) (r4 : Rd w w.heap.size B2 e2) :
    Calls Tryz.prog 86 #[.agg #[.int .i64 N, .int .i64 T, .int .i64 k, .int .i64 ll, .slice A1 b1.length c1, .int .i64 lh, .slice A2 b2.length c2], .agg #[.int .i64 N', .int .i64 T', .int .i64 k', .int .i64 ll', .slice B1 e1.length d1, .int .i64 lh', .slice B2 e2.length d2]] w fun e w' => e = .returned (.bool (decide (N = N') && decide (T = T') && decide (k = k') && (decide (ll = ll') && decide (b1 = e1)) && (decide (lh = lh') && decide (b2 = e2)))) ∧ Below w.heap.size w w' :=
  sfn_w _ _ _ _ _ _ _ _ _ _ _ _ _ _ _ _ _ _ _ _ _ _ _ _ _ w rfl (Lib.hid fun V hV => csame_any ll ll' b1 e1 _ _ rfl rfl h1 h3 A1 B1 c1 d1 V (r1.on hV) (r3.on hV)) (Lib.hid fun V hV => csame_any lh lh' b2 e2 _ _ rfl rfl h2 h4 A2 B2 c2 d2 V (r2.on hV) (r4.on hV))
end Go.Proofs.YtbddcokjkdoaaaaGreat
