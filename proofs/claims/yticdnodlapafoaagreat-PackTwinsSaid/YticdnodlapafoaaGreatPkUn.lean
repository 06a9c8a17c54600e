/- The reader of a packed graph: what it holds between two lists, and one list more ((*unpacker).take). -/
import Derived.Test.YticdnodlapafoaaGreatPkEn
import Derived.Deep.RegionLaw
namespace Go.Proofs.YticdnodlapafoaaGreat
set_option maxRecDepth 100000
set_option linter.unusedVariables false
open Go.RowKit Go.Shelf

theorem take_room {L x : List Bool} {s n : Nat} (hs : s ≤ L.length) (hx : x.length = n) (h : (L.drop s).take n = x) : s + n ≤ L.length := by
  have := congrArg List.length h
  rw [List.length_take, List.length_drop, hx] at this
  omega
theorem sread_inv {L : List Bool} {a bk ls k : Nat} (ha : a ≤ 1048576) (hk : 1 ≤ k) {F : List Nat} (hF : bk ≠ 0 → Rising F) {s : Nat} (hs : s ≤ L.length) {l : List Nat} {s' : Nat}
    (h : (if (sread L a bk ls k F s).2.2 = 0 then some ((sread L a bk ls k F s).1, (sread L a bk ls k F s).2.1) else none) = some (l, s')) : Rising l ∧ s' ≤ L.length := by
  by_cases h0 : (sread L a bk ls k F s).2.2 = 0
  · rw [if_pos h0] at h
    simp only [Option.some.injEq, Prod.mk.injEq] at h
    have e : sread L a bk ls k F s = (l, s', 0) := by
      rw [← h.1, ← h.2]
      exact Prod.ext rfl (Prod.ext rfl h0)
    obtain ⟨h1, h2, h3⟩ := sread_only L a bk ls k ha hk F hF s hs l s' e
    exact ⟨h1, by rw [h2]; exact take_room hs rfl h3⟩
  · rw [if_neg h0] at h; cases h
theorem rdN_inv {L : List Bool} {B ls k : Nat} (hk : 1 ≤ k) {G : List (List Nat)} (hG : RowsR G) {i s : Nat} (hi : i ≤ 1048576) (hs : s ≤ L.length) {l : List Nat} {s' : Nat} (h : rdN L B ls k G i s = some (l, s')) : Rising l ∧ s' ≤ L.length := by
  unfold rdN at h
  by_cases h0 : B = 0
  · rw [if_pos h0] at h
    exact sread_inv hi hk (fun q => absurd rfl q) hs h
  · rw [if_neg h0] at h
    by_cases h1 : (gamR L s).2.2 = 0 ∧ (gamR L s).1 ≤ min B i
    · rw [if_pos h1] at h
      exact sread_inv hi hk (fun q => ndF_rising hG i _ q) (thenR_bound L (uR L s)).1 h
    · rw [if_neg h1] at h; cases h
theorem rdA_inv {L : List Bool} {B ls k : Nat} (hk : 1 ≤ k) : ∀ n (G : List (List Nat)) s, n ≤ 1048576 → rdA L B ls k n = some (G, s) → RowsR G ∧ s ≤ L.length
  | 0, G, s, _, h => by
    simp only [rdA, Option.some.injEq, Prod.mk.injEq] at h
    rw [← h.1, ← h.2]
    exact ⟨fun l hl => by simp at hl, Nat.zero_le _⟩
  | n + 1, G, s, hn, h => by
    unfold rdA at h
    cases e : rdA L B ls k n with
    | none => rw [e] at h; cases h
    | some p =>
      obtain ⟨g', s'⟩ := p
      rw [e] at h
      simp only at h
      obtain ⟨h1, h2⟩ := rdA_inv hk n g' s' (by omega) e
      cases e2 : rdN L B ls k g' n s' with
      | none => rw [e2] at h; cases h
      | some q =>
        obtain ⟨l, s2⟩ := q
        rw [e2] at h
        simp only [Option.some.injEq, Prod.mk.injEq] at h
        obtain ⟨h3, h4⟩ := rdN_inv hk h1 (by omega) h2 e2
        rw [← h.1, ← h.2]
        refine ⟨fun l' hl => ?_, h4⟩
        rcases List.mem_append.1 hl with q | q
        · exact h1 l' q
        · rw [List.mem_singleton.1 q]; exact h3
structure UpS (w0 W : World) (U : Nat) (N B ls k : Int) (L : List Bool) (A : Option Addr) (c s : Nat) (G : List (List Nat)) (m : Nat) (v : Value) (R : List Rw) : Prop where
  low : Below w0.heap.size w0 W
  ge : w0.heap.size ≤ U
  row : W.heap[U]? = some (.cells #[.int .i64 N, .int .i64 B, .int .i64 ls, .int .i64 k, .int .i64 (L.length : Int), .slice A (pack L).length c, .int .i64 (s : Int), v] 143 (0, 0))
  eq : gs R = G.map ns
  len : R.length = m
  own : W.ownsRow (U + 1) 22 1 v m (rcl R)
  rows : ∀ r ∈ R, RdV W W.heap.size r.1 (zc r.2.2) ∧ r.2.2.length ≤ r.2.1 ∧ (r.1 = none → r.2.1 = 0) ∧ (r.2.2 ≠ [] → ∀ b o s, r.1 = some ⟨b, o, s⟩ → U < b ∧ v.ownBlock ≠ some b)
theorem UpS.lt {w0 W : World} {U : Nat} {N B ls k : Int} {L : List Bool} {A : Option Addr} {c s : Nat} {G : List (List Nat)} {m : Nat} {v : Value} {R : List Rw} (h : UpS w0 W U N B ls k L A c s G m v R) : U < W.heap.size := (Array.getElem?_eq_some_iff.1 h.row).1
theorem UpS.on {w0 W X : World} {U : Nat} {N B ls k : Int} {L : List Bool} {A : Option Addr} {c s : Nat} {G : List (List Nat)} {m : Nat} {v : Value} {R : List Rw} (h : UpS w0 W U N B ls k L A c s G m v R) (hb : Below W.heap.size W X) : UpS w0 X U N B ls k L A c s G m v R :=
  ⟨h.low.trans (hb.mono h.low.size), h.ge, (hb.block _ h.lt).trans h.row, h.eq, h.len, own_below h.own hb, fun r hr => ⟨(h.rows r hr).1.on hb, (h.rows r hr).2⟩⟩
theorem UpS.glen {w0 W : World} {U : Nat} {N B ls k : Int} {L : List Bool} {A : Option Addr} {c s : Nat} {G : List (List Nat)} {m : Nat} {v : Value} {R : List Rw} (h : UpS w0 W U N B ls k L A c s G m v R) : G.length = m := by
  have := congrArg List.length h.eq
  rw [gs_length, List.length_map, h.len] at this
  exact this.symm
theorem rdv_kept {W Z : World} {A : Option Addr} {xs : List Int} (h : RdV W W.heap.size A (zc xs)) (hk : xs ≠ [] → ∀ b o s, A = some ⟨b, o, s⟩ → b < W.heap.size → Z.heap[b]? = W.heap[b]?) (hz : W.heap.size ≤ Z.heap.size) : RdV Z Z.heap.size A (zc xs) := by
  by_cases h0 : xs = []
  · subst h0; exact .inl rfl
  · rcases h with h | ⟨b, off, rfl, hb, hc⟩
    · exact absurd (by simpa [zc] using h) h0
    · refine .inr ⟨b, off, rfl, Nat.lt_of_lt_of_le hb hz, fun i v hi => ?_⟩
      have := hc i v hi
      unfold World.cell? at this ⊢
      simp only at this ⊢
      rw [hk h0 b off none rfl hb]; exact this
theorem rdv_lt {W : World} {A : Option Addr} {xs : List Int} (h : RdV W W.heap.size A (zc xs)) (h0 : xs ≠ []) {b o : Nat} {s} (e : A = some ⟨b, o, s⟩) : b < W.heap.size := by
  rcases h with h | ⟨b', off, h1, hb, _⟩
  · exact absurd (by simpa [zc] using h) h0
  · rw [e] at h1; cases h1; exact hb
theorem UpS.app {w0 W Y : World} {U : Nat} {N B ls k : Int} {L : List Bool} {A : Option Addr} {c s : Nat} {G : List (List Nat)} {m : Nat} {v v' : Value} {R : List Rw} {o : Obj} {l : List Nat} {A1 : Option Addr} {c1 : Nat} (h : UpS w0 W U N B ls k L A c s G m v R)
    (r1 : RdV W W.heap.size A1 (zc (ns l))) (hc : l.length ≤ c1) (hA : A1 = none → c1 = 0) (hf : ns l ≠ [] → ∀ b o s, A1 = some ⟨b, o, s⟩ → U < b ∧ v.ownBlock ≠ some b)
    (hg : (W.alloc o).grownBy Y v.ownBlock) (ho : Y.ownsRow (U + 1) 22 1 v' (m + 1) (rcl R ++ [.slice A1 l.length c1])) (hl : v'.ownBlock = v.ownBlock ∨ v'.ownBlock = some (W.alloc o).heap.size) :
    (Y.cell? ⟨U, 7, none⟩ = some v ∧ Y.frozen? ⟨U, 7, none⟩ = false) ∧ UpS w0 (Y.setCell ⟨U, 7, none⟩ v') U N B ls k L A c s (G ++ [l]) (m + 1) v' (R ++ [(A1, c1, ns l)]) := by
  have hU := h.lt
  have hu : v.ownBlock ≠ some U := fun e => by have := (own_lt h.own e).1; omega
  have hr := app_row hg h.row hu
  obtain ⟨hk, hz⟩ := app_keep (P := U) (j := 7) (u' := v') hg
  refine ⟨⟨(cell_at hr 7).trans rfl, frz_at hr 7⟩, ⟨?_, h.ge, ?_, ?_, by rw [List.length_append, h.len]; rfl, ?_, ?_⟩⟩
  · refine h.low.trans ⟨hg.os, hg.tape, hg.output, hz, fun b hb => ?_⟩
    have hb2 : b < W.heap.size := Nat.lt_of_lt_of_le hb h.low.size
    refine hk b hb2 (fun e => ?_) (by have := h.ge; omega)
    have := (own_lt h.own e).1; have := h.ge; omega
  · rw [heap_set_same _ _ _ _ _ _ hr]; simp
  · unfold gs; rw [List.map_append, List.map_append, ← h.eq]; rfl
  · have e : rcl (R ++ [(A1, c1, ns l)]) = rcl R ++ [.slice A1 l.length c1] := by unfold rcl; rw [List.map_append]; simp [sl, ns_length]
    rw [e]
    refine own_kept ho fun g hg' => Below.heap_setCell Y ⟨U, 7, none⟩ v' g ?_
    have := (own_lt ho hg').1
    show g ≠ U
    omega
  · intro r hr'
    have hnew : ∀ (r : Rw), RdV W W.heap.size r.1 (zc r.2.2) → (r.2.2 ≠ [] → ∀ b o s, r.1 = some ⟨b, o, s⟩ → U < b ∧ v.ownBlock ≠ some b) → RdV (Y.setCell ⟨U, 7, none⟩ v') (Y.setCell ⟨U, 7, none⟩ v').heap.size r.1 (zc r.2.2) ∧ (r.2.2 ≠ [] → ∀ b o s, r.1 = some ⟨b, o, s⟩ → U < b ∧ v'.ownBlock ≠ some b) := fun r q1 q2 => by
      refine ⟨rdv_kept q1 (fun h0 b o s e hb => hk b hb (q2 h0 b o s e).2 (by have := (q2 h0 b o s e).1; omega)) hz, fun h0 b o s e => ⟨(q2 h0 b o s e).1, ?_⟩⟩
      rcases hl with hl | hl
      · rw [hl]; exact (q2 h0 b o s e).2
      · rw [hl, World.size_alloc]
        have := rdv_lt q1 h0 e
        intro q; simp at q; omega
    rcases List.mem_append.1 hr' with q | q
    · obtain ⟨q1, q2, q3, q4⟩ := h.rows r q
      obtain ⟨p1, p2⟩ := hnew r q1 q4
      exact ⟨p1, q2, q3, p2⟩
    · rw [List.mem_singleton.1 q]
      obtain ⟨p1, p2⟩ := hnew (A1, c1, ns l) r1 hf
      exact ⟨p1, by rw [ns_length]; exact hc, hA, p2⟩
theorem UpS.at_ {w0 W : World} {U : Nat} {N B ls k : Int} {L : List Bool} {A : Option Addr} {c s : Nat} {G : List (List Nat)} {m : Nat} {v : Value} {R : List Rw} (h : UpS w0 W U N B ls k L A c s G m v R) (s' : Nat) : UpS w0 (W.setCell ⟨U, 6, none⟩ (.int .i64 (s' : Int))) U N B ls k L A c s' G m v R := by
  have hz : W.heap.size ≤ (W.setCell ⟨U, 6, none⟩ (.int .i64 (s' : Int))).heap.size := by simp [World.setCell]
  have hk : ∀ b, b ≠ U → (W.setCell ⟨U, 6, none⟩ (.int .i64 (s' : Int))).heap[b]? = W.heap[b]? := fun b hb => Below.heap_setCell W ⟨U, 6, none⟩ _ b hb
  refine ⟨h.low.setCell (p := ⟨U, 6, none⟩) h.ge _, h.ge, ?_, h.eq, h.len, ?_, fun r hr => ⟨?_, (h.rows r hr).2⟩⟩
  · rw [heap_set_same _ _ _ _ _ _ h.row]; simp
  · refine own_kept h.own fun g hg => hk g ?_
    have := (own_lt h.own hg).1
    omega
  · exact rdv_kept (h.rows r hr).1 (fun h0 b o s e _ => hk b (by have := ((h.rows r hr).2.2.2 h0 b o s e).1; omega)) hz
/-- The list that is asked for. -/
theorem entersTk : ∀ args w, (callFunc 120 args).run Tryz.prog w = .ok (.enter 120 args) w := enters_of Tryz.func120 (by kernel_rfl) rfl
set_option maxHeartbeats 4000000 in
theorem take1_ok {w0 W : World} {U : Nat} {N B ls k : Int} {L : List Bool} {A : Option Addr} {c s : Nat} {G : List (List Nat)} {m : Nat} {v : Value} {R : List Rw} (h : UpS w0 W U N B ls k L A c s G m v R) (hm : m ≤ 100) (j : Nat) (hj : j < m) (X : Nat) (T : TypeId) (hX : W.heap[X]? = some (.cells #[.pointer (some ⟨U, 0, none⟩)] T (0, 0))) :
    Calls Tryz.prog 120 (#[.int .i64 (j : Int)] ++ #[.pointer (some ⟨X, 0, none⟩)]) W (LsL W (row G j).length (row G j)) := by
  have hjR : j < R.length := by rw [h.len]; exact hj
  have hrow : (R[j]?.getD (none, 0, [])).2.2 = ns (row G j) := by
    have e : (gs R)[j]? = (G.map ns)[j]? := by rw [h.eq]
    have hjG : j < G.length := by rw [h.glen]; exact hj
    unfold gs at e
    rw [List.getElem?_map, List.getElem?_map, List.getElem?_eq_getElem hjR, List.getElem?_eq_getElem hjG] at e
    simp only [Option.map_some, Option.some.injEq] at e
    unfold Go.Proofs.YticdnodlapafoaaGreat.row
    rw [List.getElem?_eq_getElem hjR, List.getElem?_eq_getElem hjG]
    exact e
  obtain ⟨r1, r2, r3, -⟩ := h.rows _ (rw_mem R j hjR)
  obtain ⟨gA, gc, rfl⟩ := own_sliceK h.own
  have hrd := own_rdvT h.own
  obtain ⟨b, off, rfl, hb, hc⟩ := hrd.at_ (rcl_get R j hjR)
  have x0 := box_cell hX
  have x7 : W.cell? ⟨U, 7, none⟩ = some (.slice (some ⟨b, off, none⟩) m gc) := (cell_at h.row 7).trans rfl
  have hfin : Hid (LsL W (row G j).length (row G j) (.returned (sl (R[j]?.getD (none, 0, [])))) W) := by
    refine ⟨(R[j]?.getD (none, 0, [])).1, (R[j]?.getD (none, 0, [])).2.1, ?_, ?_, r3, ?_, Below.refl _ _⟩
    · unfold sl; rw [hrow, ns_length]
    · rw [hrow, ns_length] at r2; exact r2
    · rw [hrow] at r1; exact r1
  generalize sl (R[j]?.getD (none, 0, [])) = y at *
  have t3 : (0 : Int) ≤ (j : Int) := by omega
  have t4 : (j : Int) < (m : Int) := by omega
  clear r1 r2 r3 hrow hrd hb hX h hjR
  go_enter Tryz.func120, Tryz.ntmps120
  go_wp2
  go_ret
  exact hfin.out
end Go.Proofs.YticdnodlapafoaaGreat
