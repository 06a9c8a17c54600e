/- One list more is read ((*unpacker).take). -/
import Derived.Test.YticdnodlapafoaaGreatPkUn
namespace Go.Proofs.YticdnodlapafoaaGreat
set_option maxRecDepth 100000
set_option linter.unusedVariables false
open Go.RowKit Go.Shelf

theorem info_rowL : (Tryz.prog.info? 22).map (fun i => (i.zero, i.size, i.bytes)) = some (some (.slice none 0 0), 1, 24) := by kernel_rfl
attribute [local go_sem] Oper.semAt_some
/-- An append of a list to a list of lists of the call's own, at a step of a region that draws its order. -/
theorem app_row2 {w : World} {ops : Array Oper} {o : Oper} {a : Act} {K : Act → World → Prop} {Q : Exit → Act → World → Prop} {E : Prop} (hgd : o.guard = none) (s x : Operand)
    (ho : o.op = .call { callee := .builtin .append, args := #[s, x], argTypes := #[50, 50] }) (base : Nat)
    (v : Value) (n : Nat) (xs : List Value) (hs : a.eval s = v) (hown : w.ownsRow base 22 1 v n xs)
    (ad : Addr) (y : Value) (hx : a.eval x = .slice (some ad) 1 1) (hc : w.cell? ad = some y) (h1 : y.oneCell' = true)
    (hb : n ≤ 1000000) (hbase : base ≤ w.heap.size)
    (h : ∀ v' w', w'.ownsRow base 22 1 v' (n + 1) (xs ++ [y]) → w.grownBy w' v.ownBlock → (v'.ownBlock = v.ownBlock ∨ v'.ownBlock = some w.heap.size) → K (a.put o.dst v') w') : if Region.wanted o (yielded ops a.tmps) = true then Oper.wp Tryz.prog o a w K Q else E := by
  have hw : Region.wanted o (yielded ops a.tmps) = true := by simp [Region.wanted, hgd]
  rw [if_pos hw]
  obtain ⟨i0, hi, hz0, hz1, hz2⟩ := info_parts info_rowL
  obtain ⟨v', w', hrun, h2, h3, _, h4⟩ := run_append_own_at (P := Tryz.prog) w base 50 o.type 22 i0 (.slice none 0 0) 1 24 Tryz.underlying50 hi hz0 hz1 hz2 rfl (by decide) v n xs hown ad 1 1 [y] rfl (fun j u hj => by
    cases j with
    | zero => simp at hj; subst hj; have : ad.add 0 = ad := by obtain ⟨b, f, s⟩ := ad; unfold Addr.add; split <;> simp_all
              rw [this]; exact hc
    | succ j => simp at hj) (by simpa using h1) (by unfold maxLen; omega) (by omega) hbase
  unfold Oper.wp execOp
  simp only [ho, resolve, invoke, builtin, Sem.run_bind, Sem.run_pure, Result.andThen_ok, List.map_toArray, List.map_cons, List.map_nil, hs, hx, hrun]
  exact h v' w' h2 h3 h4
/-- What take answers. -/
def TkG (w0 W : World) (U : Nat) (N B ls k : Int) (L : List Bool) (A : Option Addr) (c : Nat) (G : List (List Nat)) (m : Nat) (R : List Rw) (r : Option (List Nat × Nat)) (e : Ending) (w' : World) : Prop :=
  match r with
  | some (l, s') => e = .returned (.int .i64 0) ∧ ∃ v' A1 c1, UpS w0 w' U N B ls k L A c s' (G ++ [l]) (m + 1) v' (R ++ [(A1, c1, ns l)])
  | none => ∃ er, e = .returned (.int .i64 er) ∧ er ≠ 0 ∧ Below W.heap.size W w'
set_option maxHeartbeats 8000000 in
theorem take_ok {w0 W : World} {U : Nat} {N : Int} {B ls k : Nat} {L : List Bool} {A : Option Addr} {c s : Nat} {G : List (List Nat)} {m : Nat} {v : Value} {R : List Rw} (h : UpS w0 W U N (B : Int) (ls : Int) (k : Int) L A c s G m v R) (hm : m ≤ 100)
    (hB : B ≤ 7) (hls : ls = 0 ∨ 2 ≤ ls ∧ ls ≤ 300) (hk : 1 ≤ k) (hk2 : k ≤ 16) (hL : L.length ≤ 8192) (hs : s ≤ L.length) (hG : RowsR G) (h0 : Rd w0 w0.heap.size A (pack L)) (r : Option (List Nat × Nat)) (hr : rdN L B ls k G m s = r) :
    Calls Tryz.prog 94 #[.pointer (some ⟨U, 0, none⟩)] W (TkG w0 W U N (B : Int) (ls : Int) (k : Int) L A c G m R r) := by
  have hmf : ∀ (fn : Fn) (first cap : Array Value) (w : World), (Instr.makeFunc fn first cap).run Tryz.prog w = .ok (.func fn first cap) w := fun _ _ _ _ => rfl
  have hU := h.lt
  obtain ⟨X, hX⟩ : ∃ X, W.heap.size = X := ⟨_, rfl⟩
  obtain ⟨W1, hW1⟩ : ∃ W1, W.alloc (.cells #[.pointer (some ⟨U, 0, none⟩)] 169) = W1 := ⟨_, rfl⟩
  have hb1 : Below W.heap.size W W1 := hW1 ▸ one_below W _
  have hx1 : W1.heap[X]? = some (.cells #[.pointer (some ⟨U, 0, none⟩)] 169 (0, 0)) := by rw [← hW1, ← hX]; exact World.alloc_heap_new W _
  have h1 := h.on hb1
  have HB1 := Lib.hid hb1
  have hsz1 : W1.heap.size = X + 1 := by rw [← hW1, World.size_alloc, hX]
  have HEn : Hid (∀ V, Below W1.heap.size W1 V → Calls Tryz.prog 119 #[.agg #[.int .i64 N, .int .i64 (B : Int), .int .i64 (ls : Int), .int .i64 (k : Int), .int .i64 (L.length : Int), .slice A (pack L).length c], .int .i64 (s : Int), .int .i64 (m : Int), .func (.func 120) #[] #[.pointer (some ⟨X, 0, none⟩)]] V (EnR V r)) := fun V hV => by
    have h2 := h1.on hV
    have := entry_ok N B ls k hB hls hk hk2 L hL A c s m hs (by omega) G hG 120 #[.pointer (some ⟨X, 0, none⟩)] V (h0.on h2.low) entersTk (Lib.hid fun V2 j hj hV2 => take1_ok (h2.on hV2) hm j hj X 169 ((hV2.block _ (by have := hV.size; omega)).trans ((hV.block _ (by omega)).trans hx1)))
    rw [hr] at this
    exact this
  have HU1 := Lib.hid h1
  have HX1 := Lib.hid hx1
  have HS : Hid (∀ V, Below W1.heap.size W1 V → V.cell? ⟨X, 0, none⟩ = some (.pointer (some ⟨U, 0, none⟩)) ∧ V.cell? ⟨U, 0, none⟩ = some (.int .i64 N) ∧ V.cell? ⟨U, 1, none⟩ = some (.int .i64 (B : Int)) ∧ V.cell? ⟨U, 2, none⟩ = some (.int .i64 (ls : Int)) ∧ V.cell? ⟨U, 3, none⟩ = some (.int .i64 (k : Int)) ∧ V.cell? ⟨U, 4, none⟩ = some (.int .i64 (L.length : Int)) ∧ V.cell? ⟨U, 5, none⟩ = some (.slice A (pack L).length c) ∧ V.cell? ⟨U, 6, none⟩ = some (.int .i64 (s : Int)) ∧ V.cell? ⟨U, 7, none⟩ = some v) := fun V hV => by
    have hx := (hV.block X (by omega)).trans HX1.out
    have hu := (HU1.out.on hV).row
    exact ⟨(cell_at hx 0).trans rfl, (cell_at hu 0).trans rfl, (cell_at hu 1).trans rfl, (cell_at hu 2).trans rfl, (cell_at hu 3).trans rfl, (cell_at hu 4).trans rfl, (cell_at hu 5).trans rfl, (cell_at hu 6).trans rfl, (cell_at hu 7).trans rfl⟩
  have HD : Hid (Below W1.heap.size W1 W1.drew) := (Below.refl _ _).drew
  obtain ⟨gA, gc, rfl⟩ := own_sliceK h.own
  have HH := Lib.hid h
  have HXU : Hid (U < X ∧ W1.heap.size = X + 1 ∧ W.heap.size = X) := ⟨by omega, hsz1, hX⟩
  clear h h1 hx1 hb1 hU hsz1 h0 hs hG hr hB hls hk hk2 hL
  cases r with
  | none =>
    go_enter Tryz.func94, Tryz.ntmps94
    go_wp2
    try rw [hW1]
    try rw [hX]
    clear hW1 hX
    go_region_held3 (fun V => V.cell? ⟨X, 0, none⟩ = some (.pointer (some ⟨U, 0, none⟩)) ∧ V.cell? ⟨U, 0, none⟩ = some (.int .i64 N) ∧ V.cell? ⟨U, 1, none⟩ = some (.int .i64 (B : Int)) ∧ V.cell? ⟨U, 2, none⟩ = some (.int .i64 (ls : Int)) ∧ V.cell? ⟨U, 3, none⟩ = some (.int .i64 (k : Int)) ∧ V.cell? ⟨U, 4, none⟩ = some (.int .i64 (L.length : Int)) ∧ V.cell? ⟨U, 5, none⟩ = some (.slice A (pack L).length c) ∧ V.cell? ⟨U, 6, none⟩ = some (.int .i64 (s : Int)) ∧ V.cell? ⟨U, 7, none⟩ = some (.slice gA m gc))
      ((refine HS.out _ ?_; first | exact hk1.out | exact HD.out))
      ((go_at_call 119; refine (HEn.out _ HD.out).mono ?_; rintro e wa ⟨v1, to1, er, rfl, g1, bq⟩; have hk1 : Hid (Below W1.heap.size W1 wa) := HD.out.trans (bq.mono HD.out.size); have HE0 := Lib.hid g1; have t9 : (er != 0) = true := (by simpa using g1); clear bq g1))
    go_wp2
    go_ret
    exact ⟨er, rfl, HE0.out, HB1.out.trans (hk1.out.mono HB1.out.size)⟩
  | some q =>
    obtain ⟨l, s'⟩ := q
    go_enter Tryz.func94, Tryz.ntmps94
    go_wp2
    try rw [hW1]
    try rw [hX]
    clear hW1 hX
    go_region_held3 (fun V => V.cell? ⟨X, 0, none⟩ = some (.pointer (some ⟨U, 0, none⟩)) ∧ V.cell? ⟨U, 0, none⟩ = some (.int .i64 N) ∧ V.cell? ⟨U, 1, none⟩ = some (.int .i64 (B : Int)) ∧ V.cell? ⟨U, 2, none⟩ = some (.int .i64 (ls : Int)) ∧ V.cell? ⟨U, 3, none⟩ = some (.int .i64 (k : Int)) ∧ V.cell? ⟨U, 4, none⟩ = some (.int .i64 (L.length : Int)) ∧ V.cell? ⟨U, 5, none⟩ = some (.slice A (pack L).length c) ∧ V.cell? ⟨U, 6, none⟩ = some (.int .i64 (s : Int)) ∧ V.cell? ⟨U, 7, none⟩ = some (.slice gA m gc))
      ((refine HS.out _ ?_; first | exact hk1.out | exact HD.out))
      ((go_at_call 119; refine (HEn.out _ HD.out).mono ?_; rintro e wa ⟨A5, c5, rfl, g1, g2, g3, bq⟩; have hk1 : Hid (Below W1.heap.size W1 wa) := HD.out.trans (bq.mono HD.out.size); have HRl : Hid (l.length ≤ c5 ∧ (A5 = none → c5 = 0) ∧ RdV wa wa.heap.size A5 (zc (ns l)) ∧ ∀ b o s, A5 = some ⟨b, o, s⟩ → W1.heap.size ≤ b) := ⟨g1, g2, g3.1, fun b o s e => Nat.le_trans (HD.out.size) (g3.2 b o s e)⟩; clear bq g1 g2 g3))
    have hua := HU1.out.on hk1.out
    have HUa := Lib.hid hua
    have hxa := (hk1.out.block X (by have := HXU.out.2.1; omega)).trans HX1.out
    have x0 := box_cell hxa
    have x7 : wa.cell? ⟨U, 7, none⟩ = some (.slice gA m gc) := (cell_at hua.row 7).trans rfl
    have HXa := Lib.hid hxa
    have hlt := hua.lt
    have x7b : (wa.alloc (.cells #[.slice A5 l.length c5] 22)).cell? ⟨U, 7, none⟩ = some (.slice gA m gc) := ((one_below wa _).cell (p := ⟨U, 7, none⟩) hlt).trans x7
    have hXs : X < wa.heap.size := World.block_lt_of_cell? _ _ x0
    have x0b : (wa.alloc (.cells #[.slice A5 l.length c5] 22)).cell? ⟨X, 0, none⟩ = some (.pointer (some ⟨U, 0, none⟩)) := ((one_below wa _).cell (p := ⟨X, 0, none⟩) hXs).trans x0
    have HAp : Hid (∀ (v' : Value) (Y : World), Y.ownsRow (U + 1) 22 1 v' (m + 1) (rcl R ++ [.slice A5 l.length c5]) → (wa.drew.alloc (.cells #[.slice A5 l.length c5] 22)).grownBy Y (Value.slice gA m gc).ownBlock → (v'.ownBlock = (Value.slice gA m gc).ownBlock ∨ v'.ownBlock = some (wa.drew.alloc (.cells #[.slice A5 l.length c5] 22)).heap.size) →
        (Y.cell? ⟨X, 0, none⟩ = some (.pointer (some ⟨U, 0, none⟩)) ∧ Y.cell? ⟨U, 7, none⟩ = some (.slice gA m gc) ∧ Y.frozen? ⟨U, 7, none⟩ = false) ∧ UpS w0 (Y.setCell ⟨U, 7, none⟩ v') U N (B : Int) (ls : Int) (k : Int) L A c s (G ++ [l]) (m + 1) v' (R ++ [(A5, c5, ns l)]) ∧ (Y.setCell ⟨U, 7, none⟩ v').cell? ⟨X, 0, none⟩ = some (.pointer (some ⟨U, 0, none⟩))) := fun v' Y q1 q2 q3 => by
      have hd : Below wa.heap.size wa wa.drew := (Below.refl _ _).drew
      have hu := HUa.out.on hd
      have hfr : ns l ≠ [] → ∀ b o s, A5 = some ⟨b, o, s⟩ → U < b ∧ (Value.slice gA m gc).ownBlock ≠ some b := fun _ b o s e => by
        have h5 := HRl.out.2.2.2 b o s e
        have h6 := HXU.out
        refine ⟨by omega, fun q => ?_⟩
        have h7 := (own_lt HH.out.own q).2.1
        omega
      obtain ⟨⟨p1, p2⟩, p3⟩ := hu.app (HRl.out.2.2.1.on hd) HRl.out.1 HRl.out.2.1 hfr q2 q1 q3
      have hne : (Value.slice gA m gc).ownBlock ≠ some X := fun q => by
        have h7 := (own_lt HH.out.own q).2.1
        have h6 := HXU.out
        omega
      have hxy : Y.heap[X]? = some (.cells #[.pointer (some ⟨U, 0, none⟩)] 169 (0, 0)) := app_row q2 ((hd.block X (by have := HXa.out; exact (Array.getElem?_eq_some_iff.1 this).1)).trans HXa.out) hne
      have hxz : (Y.setCell ⟨U, 7, none⟩ v').heap[X]? = some (.cells #[.pointer (some ⟨U, 0, none⟩)] 169 (0, 0)) := (Below.heap_setCell Y ⟨U, 7, none⟩ v' X (by have := HXU.out; show X ≠ U; omega)).trans hxy
      exact ⟨⟨box_cell hxy, p1, p2⟩, p3, box_cell hxz⟩
    have HO : Hid (wa.drew.ownsRow (U + 1) 22 1 (.slice gA m gc) m (rcl R)) := own_below HUa.out.own ((Below.refl _ wa).drew)
    clear hua hxa hlt
    go_wp2
    go_region_law
      ((refine app_row2 (by rfl) (.tmp 32) (.tmp 34) (by rfl) (U + 1) (.slice gA m gc) m (rcl R) (by rfl) (HO.out.alloc _) ⟨wa.drew.heap.size, 0, none⟩ (.slice A5 l.length c5) (by rfl) (box_cell (World.alloc_heap_new wa.drew _)) rfl (by omega) (by have := HXU.out; have := HUa.out.lt; show _ ≤ (wa.alloc _).heap.size; simp; omega) ?_; intro v' w4 hown' hgrow hloc; obtain ⟨A6, c6, rfl⟩ := own_sliceK hown'; obtain ⟨⟨p0, p1, p2⟩, p3, p4⟩ := HAp.out _ w4 hown' hgrow hloc; have HP3 := Lib.hid p3; have HP4 := Lib.hid p4; clear p3 p4 hown' hgrow hloc))
    all_goals (
      obtain ⟨W8, hW8⟩ : ∃ W8, w4.setCell ⟨U, 7, none⟩ (.slice A6 (m + 1) c6) = W8 := ⟨_, rfl⟩
      rw [hW8] at HP3 HP4 ⊢
      clear hW8 p0 p1 p2 x0 x7 x0b x7b
      have y0 := HP4.out
      have y6 : W8.cell? ⟨U, 6, none⟩ = some (.int .i64 (s : Int)) := (cell_at HP3.out.row 6).trans rfl
      have f6 := frz_at HP3.out.row 6
      have HFin := Lib.hid (HP3.out.at_ s')
      go_wp2
      go_ret
      exact ⟨rfl, _, _, _, HFin.out⟩)
end Go.Proofs.YticdnodlapafoaaGreat
