/- Texts of this proof, one behind the other; each fact names its conditions. -/
import Derived.Test.YtbddcokjkdoaaaaGreatSN20
import Derived.Test.YtbddcokjkdoaaaaGreatSN2
import Derived.Maps.AppendAt
import Derived.Deep.RegionLaw
namespace Go.Proofs.YtbddcokjkdoaaaaGreat
section
set_option maxRecDepth 100000
set_option linter.unusedVariables false
open Go.RowKit Go.Shelf
theorem info_intK : (Tryz.prog.info? 3).map (fun i => (i.zero, i.size, i.bytes)) = some (some (.int .i64 0), 1, 8) := by kernel_rfl
def Apt (P : Nat) (v1 v2 : Value) (A : Option Addr) (bs : List Nat) : Prop :=
  bs ≠ [] → ∀ b off, A = some ⟨b, off, none⟩ → P < b ∧ v1.ownBlock ≠ some b ∧ v2.ownBlock ≠ some b
structure PkS (w0 W : World) (P N B ls k : Nat) (len : Int) (n c : Nat) (pk : List Nat) (bs ss : List Nat) (nb nS : Nat) (A : Option Addr) (v1 v2 : Value) : Prop where
  low : Below w0.heap.size w0 W
  ge : w0.heap.size ≤ P
  row : W.heap[P]? = some (.cells #[.int .i64 (N : Int), .int .i64 (B : Int), .int .i64 (ls : Int), .int .i64 (k : Int), .int .i64 len, .slice A n c, v1, v2] 110 (0, 0))
  rd : Rd W W.heap.size A pk
  own1 : W.ownsRow (P + 1) 3 1 v1 nb (zc (ns bs))
  own2 : W.ownsRow (P + 1) 3 1 v2 nS (zc (ns ss))
  ap : Apt P v1 v2 A pk
  dj : ∀ g, v1.ownBlock = some g → v2.ownBlock ≠ some g
theorem own_lt {W : World} {base k n : Nat} {T : TypeId} {v : Value} {xs : List Value} (h : W.ownsRow base T k v n xs) {g : Nat} (hg : v.ownBlock = some g) : base ≤ g ∧ g < W.heap.size ∧ ∃ cs, W.heap[g]? = some (.cells cs T (0, 0)) := by
  rcases h.2 with ⟨rfl, _⟩ | ⟨g', cap, cur, rfl, h1, h2, _⟩
  · simp [Value.ownBlock] at hg
  · have : g' = g := by simpa [Value.ownBlock] using hg
    subst this
    exact ⟨h1, (Array.getElem?_eq_some_iff.1 h2).1, _, h2⟩
theorem own_kept {X Y : World} {base k n : Nat} {T : TypeId} {v : Value} {xs : List Value} (h : X.ownsRow base T k v n xs) (hk : ∀ g, v.ownBlock = some g → Y.heap[g]? = X.heap[g]?) : Y.ownsRow base T k v n xs := by
  refine ⟨h.1, ?_⟩
  rcases h.2 with h0 | ⟨g, cap, cur, rfl, h1, h2, h3⟩
  · exact .inl h0
  · exact .inr ⟨g, cap, cur, rfl, h1, (hk g rfl).trans h2, h3⟩
theorem PkS.lt {w0 W : World} {P N B ls k n c nb nS : Nat} {len : Int} {pk bs ss : List Nat} {A : Option Addr} {v1 v2 : Value} (h : PkS w0 W P N B ls k len n c pk bs ss nb nS A v1 v2) : P < W.heap.size := (Array.getElem?_eq_some_iff.1 h.row).1
theorem PkS.on {w0 W X : World} {P N B ls k n c nb nS : Nat} {len : Int} {pk bs ss : List Nat} {A : Option Addr} {v1 v2 : Value} (h : PkS w0 W P N B ls k len n c pk bs ss nb nS A v1 v2) (hb : Below W.heap.size W X) : PkS w0 X P N B ls k len n c pk bs ss nb nS A v1 v2 :=
  ⟨h.low.trans (hb.mono h.low.size), h.ge, (hb.block _ h.lt).trans h.row, h.rd.below hb hb.size, own_kept h.own1 fun g hg => hb.block g (own_lt h.own1 hg).2.1, own_kept h.own2 fun g hg => hb.block g (own_lt h.own2 hg).2.1, h.ap, h.dj⟩
theorem rd_apt {W Z : World} {P : Nat} {u : Value} {A : Option Addr} {bs : List Nat} (h : Rd W W.heap.size A bs) (ha : bs ≠ [] → ∀ b off, A = some ⟨b, off, none⟩ → P ≠ b ∧ u.ownBlock ≠ some b) (hk : ∀ b, b < W.heap.size → u.ownBlock ≠ some b → b ≠ P → Z.heap[b]? = W.heap[b]?) (hs : W.heap.size ≤ Z.heap.size) : Rd Z Z.heap.size A bs := by
  rcases h with h | ⟨b, off, e, hb, hc⟩
  · exact .inl h
  · by_cases h0 : bs = []
    · exact .inl h0
    · obtain ⟨p1, p2⟩ := ha h0 b off e
      exact .inr ⟨b, off, e, by omega, fun i hi => (World.cell?_of_block (w := W) (a := ⟨b, off + i, none⟩) (hk b hb p2 (fun q => p1 q.symm))).trans (hc i hi)⟩
theorem app_keep {W Y : World} {P j : Nat} {u u' : Value} {o : Obj} (hg : (W.alloc o).grownBy Y u.ownBlock) : (∀ b, b < W.heap.size → u.ownBlock ≠ some b → b ≠ P → (Y.setCell ⟨P, j, none⟩ u').heap[b]? = W.heap[b]?) ∧ W.heap.size ≤ (Y.setCell ⟨P, j, none⟩ u').heap.size := by
  refine ⟨fun b hb h1 h2 => ?_, by have := hg.size; rw [World.size_alloc] at this; simp [World.setCell]; omega⟩
  rw [Below.heap_setCell Y ⟨P, j, none⟩ u' b h2, hg.block b (by rw [World.size_alloc]; omega) (fun e => h1 e.symm), Below.heap_alloc _ _ _ hb]
theorem app_row {W Y : World} {P : Nat} {u : Value} {o ob : Obj} (hg : (W.alloc o).grownBy Y u.ownBlock) (hP : W.heap[P]? = some ob) (hu : u.ownBlock ≠ some P) : Y.heap[P]? = some ob := by
  have hl := (Array.getElem?_eq_some_iff.1 hP).1
  rw [hg.block P (by rw [World.size_alloc]; omega) (fun e => hu e.symm), Below.heap_alloc _ _ _ hl]; exact hP
theorem zc_snoc (bs : List Nat) (x : Nat) : zc (ns (bs ++ [x])) = zc (ns bs) ++ [.int .i64 (x : Int)] := by simp [zc, ns]
theorem PkS.app1 {w0 W Y : World} {P N B ls k n c nb nS : Nat} {len : Int} {pk bs ss : List Nat} {A : Option Addr} {v1 v2 v' : Value} {o : Obj} {x : Nat} (h : PkS w0 W P N B ls k len n c pk bs ss nb nS A v1 v2)
    (hg : (W.alloc o).grownBy Y v1.ownBlock) (ho : Y.ownsRow (P + 1) 3 1 v' (nb + 1) (zc (ns bs) ++ [.int .i64 (x : Int)])) (hl : v'.ownBlock = v1.ownBlock ∨ v'.ownBlock = some (W.alloc o).heap.size) :
    (Y.cell? ⟨P, 6, none⟩ = some v1 ∧ Y.frozen? ⟨P, 6, none⟩ = false) ∧ PkS w0 (Y.setCell ⟨P, 6, none⟩ v') P N B ls k len n c pk (bs ++ [x]) ss (nb + 1) nS A v' v2 := by
  have hP := h.lt
  have hu : v1.ownBlock ≠ some P := fun e => by have := (own_lt h.own1 e).1; omega
  have hr := app_row hg h.row hu
  obtain ⟨hk, hs⟩ := app_keep (P := P) (j := 6) (u' := v') hg
  have hs2 : W.heap.size < (W.alloc o).heap.size := by rw [World.size_alloc]; omega
  refine ⟨⟨(cell_at hr 6).trans rfl, frz_at hr 6⟩, ?_, h.ge, ?_, rd_apt h.rd (fun h0 b off e => ⟨Nat.ne_of_lt (h.ap h0 b off e).1, (h.ap h0 b off e).2.1⟩) hk hs, ?_, ?_, ?_, ?_⟩
  · have hb : Below (P + 1) W Y := ((Below.refl _ W).alloc (by omega) o).trans (grown_low hg (h.own1.alloc _) (by rw [World.size_alloc]; omega))
    exact h.low.trans (((hb.mono (Nat.le_succ P)).setCell (p := ⟨P, 6, none⟩) (Nat.le_refl _) _).mono h.ge)
  · rw [heap_set_same _ _ _ _ 110 _ hr]; simp
  · rw [zc_snoc]; exact own_kept ho fun g hg => Below.heap_setCell Y ⟨P, 6, none⟩ v' g (fun e => by have := (own_lt ho hg).1; have : g = P := e; omega)
  · exact own_kept h.own2 fun g hg => hk g (own_lt h.own2 hg).2.1 (fun e => h.dj g e hg) (by have := (own_lt h.own2 hg).1; omega)
  · intro h0 b off e
    obtain ⟨p1, p2, p3⟩ := h.ap h0 b off e
    refine ⟨p1, fun q => ?_, p3⟩
    rcases hl with hl | hl
    · exact p2 (hl.symm.trans q)
    · have hbl : b < W.heap.size := by
        rcases h.rd with q2 | ⟨b2, off2, e2, hb2, _⟩
        · exact absurd q2 h0
        · rw [e] at e2; simp at e2; omega
      rw [hl] at q; simp at q; omega
  · intro g hg1 hg2
    rcases hl with hl | hl
    · exact h.dj g (hl.symm.trans hg1) hg2
    · have := (own_lt h.own2 hg2).2.1
      rw [hl] at hg1; simp at hg1; omega
theorem PkS.app2 {w0 W Y : World} {P N B ls k n c nb nS : Nat} {len : Int} {pk bs ss : List Nat} {A : Option Addr} {v1 v2 v' : Value} {o : Obj} {x : Nat} (h : PkS w0 W P N B ls k len n c pk bs ss nb nS A v1 v2)
    (hg : (W.alloc o).grownBy Y v2.ownBlock) (ho : Y.ownsRow (P + 1) 3 1 v' (nS + 1) (zc (ns ss) ++ [.int .i64 (x : Int)])) (hl : v'.ownBlock = v2.ownBlock ∨ v'.ownBlock = some (W.alloc o).heap.size) :
    (Y.cell? ⟨P, 7, none⟩ = some v2 ∧ Y.frozen? ⟨P, 7, none⟩ = false) ∧ PkS w0 (Y.setCell ⟨P, 7, none⟩ v') P N B ls k len n c pk bs (ss ++ [x]) nb (nS + 1) A v1 v' := by
  have hP := h.lt
  have hu : v2.ownBlock ≠ some P := fun e => by have := (own_lt h.own2 e).1; omega
  have hr := app_row hg h.row hu
  obtain ⟨hk, hs⟩ := app_keep (P := P) (j := 7) (u' := v') hg
  have hs2 : W.heap.size < (W.alloc o).heap.size := by rw [World.size_alloc]; omega
  refine ⟨⟨(cell_at hr 7).trans rfl, frz_at hr 7⟩, ?_, h.ge, ?_, rd_apt h.rd (fun h0 b off e => ⟨Nat.ne_of_lt (h.ap h0 b off e).1, (h.ap h0 b off e).2.2⟩) hk hs, ?_, ?_, ?_, ?_⟩
  · have hb : Below (P + 1) W Y := ((Below.refl _ W).alloc (by omega) o).trans (grown_low hg (h.own2.alloc _) (by rw [World.size_alloc]; omega))
    exact h.low.trans (((hb.mono (Nat.le_succ P)).setCell (p := ⟨P, 7, none⟩) (Nat.le_refl _) _).mono h.ge)
  · rw [heap_set_same _ _ _ _ 110 _ hr]; simp
  · exact own_kept h.own1 fun g hg => hk g (own_lt h.own1 hg).2.1 (fun e => h.dj g hg e) (by have := (own_lt h.own1 hg).1; omega)
  · rw [zc_snoc]; exact own_kept ho fun g hg => Below.heap_setCell Y ⟨P, 7, none⟩ v' g (fun e => by have := (own_lt ho hg).1; have : g = P := e; omega)
  · intro h0 b off e
    obtain ⟨p1, p2, p3⟩ := h.ap h0 b off e
    refine ⟨p1, p2, fun q => ?_⟩
    rcases hl with hl | hl
    · exact p3 (hl.symm.trans q)
    · have hbl : b < W.heap.size := by
        rcases h.rd with q2 | ⟨b2, off2, e2, hb2, _⟩
        · exact absurd q2 h0
        · rw [e] at e2; simp at e2; omega
      rw [hl] at q; simp at q; omega
  · intro g hg1 hg2
    rcases hl with hl | hl
    · exact h.dj g hg1 (hl.symm.trans hg2)
    · have := (own_lt h.own1 hg1).2.1
      rw [hl] at hg2; simp at hg2; omega
structure BxB (P : Nat) (v1 v2 : Value) (W : World) (b : Nat) (len : Int) (A : Option Addr) (n c : Nat) (pk : List Nat) : Prop where
  row : W.heap[b]? = some (.cells #[.int .i64 len, .slice A n c] 27 (0, 0))
  rd : Rd W W.heap.size A pk
  ap : Apt P v1 v2 A pk
  ne : P ≠ b
theorem BxB.lt {P : Nat} {v1 v2 : Value} {W : World} {b : Nat} {len : Int} {A : Option Addr} {n c : Nat} {pk : List Nat} (h : BxB P v1 v2 W b len A n c pk) : b < W.heap.size := (Array.getElem?_eq_some_iff.1 h.row).1
theorem own_neB {W : World} {base k n b : Nat} {v : Value} {xs : List Value} {cs : Array Value} (h : W.ownsRow base 3 k v n xs) (hb : W.heap[b]? = some (.cells cs 27 (0, 0))) : v.ownBlock ≠ some b := fun e => by
  obtain ⟨_, _, cs2, h2⟩ := own_lt h e
  rw [hb] at h2
  simp at h2
theorem BxB.app1 {w0 W Y : World} {P N B ls k n c nb nS : Nat} {len : Int} {pk bs ss : List Nat} {A : Option Addr} {v1 v2 v' : Value} {o : Obj} {b : Nat} {len2 : Int} {A2 : Option Addr} {n2 c2 : Nat} {pk2 : List Nat} (hb : BxB P v1 v2 W b len2 A2 n2 c2 pk2) (h : PkS w0 W P N B ls k len n c pk bs ss nb nS A v1 v2)
    (hg : (W.alloc o).grownBy Y v1.ownBlock) (hl : v'.ownBlock = v1.ownBlock ∨ v'.ownBlock = some (W.alloc o).heap.size) : BxB P v' v2 (Y.setCell ⟨P, 6, none⟩ v') b len2 A2 n2 c2 pk2 := by
  obtain ⟨hk, hs⟩ := app_keep (P := P) (j := 6) (u' := v') hg
  have hs2 : W.heap.size < (W.alloc o).heap.size := by rw [World.size_alloc]; omega
  refine ⟨(hk b hb.lt (own_neB h.own1 hb.row) (fun e => hb.ne e.symm)).trans hb.row, rd_apt hb.rd (fun h0 b off e => ⟨Nat.ne_of_lt (hb.ap h0 b off e).1, (hb.ap h0 b off e).2.1⟩) hk hs, fun h0 b off e => ?_, hb.ne⟩
  obtain ⟨p1, p2, p3⟩ := hb.ap h0 b off e
  refine ⟨p1, fun q => ?_, p3⟩
  rcases hl with hl | hl
  · exact p2 (hl.symm.trans q)
  · have hbl : b < W.heap.size := by
      rcases hb.rd with q2 | ⟨b2, off2, e2, hb2, _⟩
      · exact absurd q2 h0
      · rw [e] at e2; simp at e2; omega
    rw [hl] at q; simp at q; omega
theorem BxB.app2 {w0 W Y : World} {P N B ls k n c nb nS : Nat} {len : Int} {pk bs ss : List Nat} {A : Option Addr} {v1 v2 v' : Value} {o : Obj} {b : Nat} {len2 : Int} {A2 : Option Addr} {n2 c2 : Nat} {pk2 : List Nat} (hb : BxB P v1 v2 W b len2 A2 n2 c2 pk2) (h : PkS w0 W P N B ls k len n c pk bs ss nb nS A v1 v2)
    (hg : (W.alloc o).grownBy Y v2.ownBlock) (hl : v'.ownBlock = v2.ownBlock ∨ v'.ownBlock = some (W.alloc o).heap.size) : BxB P v1 v' (Y.setCell ⟨P, 7, none⟩ v') b len2 A2 n2 c2 pk2 := by
  obtain ⟨hk, hs⟩ := app_keep (P := P) (j := 7) (u' := v') hg
  have hs2 : W.heap.size < (W.alloc o).heap.size := by rw [World.size_alloc]; omega
  refine ⟨(hk b hb.lt (own_neB h.own2 hb.row) (fun e => hb.ne e.symm)).trans hb.row, rd_apt hb.rd (fun h0 b off e => ⟨Nat.ne_of_lt (hb.ap h0 b off e).1, (hb.ap h0 b off e).2.2⟩) hk hs, fun h0 b off e => ?_, hb.ne⟩
  obtain ⟨p1, p2, p3⟩ := hb.ap h0 b off e
  refine ⟨p1, p2, fun q => ?_⟩
  rcases hl with hl | hl
  · exact p3 (hl.symm.trans q)
  · have hbl : b < W.heap.size := by
      rcases hb.rd with q2 | ⟨b2, off2, e2, hb2, _⟩
      · exact absurd q2 h0
      · rw [e] at e2; simp at e2; omega
    rw [hl] at q; simp at q; omega
theorem PkS.bits {w0 W : World} {P N B ls k n c nb nS : Nat} {len : Int} {pk bs ss : List Nat} {A : Option Addr} {v1 v2 : Value} {b : Nat} {len2 : Int} {A2 : Option Addr} {n2 c2 : Nat} {pk2 : List Nat} (h : PkS w0 W P N B ls k len n c pk bs ss nb nS A v1 v2) (hb : BxB P v1 v2 W b len2 A2 n2 c2 pk2) :
    PkS w0 ((W.setCell ⟨P, 4, none⟩ (.int .i64 len2)).setCell ⟨P, 5, none⟩ (.slice A2 n2 c2)) P N B ls k len2 n2 c2 pk2 bs ss nb nS A2 v1 v2 := by
  have h1 : (W.setCell ⟨P, 4, none⟩ (.int .i64 len2)).heap[P]? = some (.cells #[.int .i64 (N : Int), .int .i64 (B : Int), .int .i64 (ls : Int), .int .i64 (k : Int), .int .i64 len2, .slice A n c, v1, v2] 110 (0, 0)) := by
    rw [heap_set_same _ _ _ _ 110 _ h.row]; simp
  have hk : ∀ g, g ≠ P → ((W.setCell ⟨P, 4, none⟩ (.int .i64 len2)).setCell ⟨P, 5, none⟩ (.slice A2 n2 c2)).heap[g]? = W.heap[g]? := fun g hg => by
    rw [Below.heap_setCell _ ⟨P, 5, none⟩ _ g hg, Below.heap_setCell W ⟨P, 4, none⟩ _ g hg]
  have hsz : ((W.setCell ⟨P, 4, none⟩ (.int .i64 len2)).setCell ⟨P, 5, none⟩ (.slice A2 n2 c2)).heap.size = W.heap.size := by simp [World.setCell]
  refine ⟨(h.low.setCell (p := ⟨P, 4, none⟩) h.ge _).setCell (p := ⟨P, 5, none⟩) h.ge _, h.ge, ?_, ?_, own_kept h.own1 fun g hg => hk g (fun e => by have := (own_lt h.own1 hg).1; omega), own_kept h.own2 fun g hg => hk g (fun e => by have := (own_lt h.own2 hg).1; omega), hb.ap, h.dj⟩
  · rw [heap_set_same _ _ _ _ 110 _ h1]; simp
  · exact rd_apt (P := P) (u := .slice none 0 0) hb.rd (fun h0 b off e => ⟨Nat.ne_of_lt (hb.ap h0 b off e).1, by simp [Value.ownBlock]⟩) (fun g _ _ hg => hk g hg) (by rw [hsz]; exact Nat.le_refl _)
end
section
set_option maxRecDepth 100000
set_option linter.unusedVariables false
open Go.RowKit Go.Shelf
theorem own_sliceK {w : World} {base n k : Nat} {e : TypeId} {v : Value} {xs : List Value} (h : w.ownsRow base e k v n xs) : ∃ A c, v = .slice A n c := by
  rcases h.2 with ⟨rfl, rfl⟩ | ⟨g, cap, cur, rfl, _⟩
  · exact ⟨none, 0, rfl⟩
  · exact ⟨_, cap, rfl⟩
attribute [local go_sem] Oper.semAt_some
theorem app_pk {w : World} {ops : Array Oper} {o : Oper} {a : Act} {K : Act → World → Prop} {Q : Exit → Act → World → Prop} {E : Prop} (hgd : o.guard = none) (s x : Operand)
    (ho : o.op = .call { callee := .builtin .append, args := #[s, x], argTypes := #[22, 22] }) (base : Nat)
    (v : Value) (n : Nat) (xs : List Value) (hs : a.eval s = v) (hown : w.ownsRow base 3 1 v n xs)
    (ad : Addr) (y : Value) (hx : a.eval x = .slice (some ad) 1 1) (hc : w.cell? ad = some y) (h1 : y.oneCell' = true)
    (hb : n ≤ 1000000) (hbase : base ≤ w.heap.size)
    (h : ∀ v' w', w'.ownsRow base 3 1 v' (n + 1) (xs ++ [y]) → w.grownBy w' v.ownBlock → (v'.ownBlock = v.ownBlock ∨ v'.ownBlock = some w.heap.size) → K (a.put o.dst v') w') : if Region.wanted o (yielded ops a.tmps) = true then Oper.wp Tryz.prog o a w K Q else E := by
  have hw : Region.wanted o (yielded ops a.tmps) = true := by simp [Region.wanted, hgd]
  rw [if_pos hw]
  obtain ⟨i0, hi, hz0, hz1, hz2⟩ := info_parts info_intK
  obtain ⟨v', w', hrun, h2, h3, _, h4⟩ := run_append_own_at (P := Tryz.prog) w base 22 o.type 3 i0 (.int .i64 0) 1 8 Tryz.underlying22 hi hz0 hz1 hz2 rfl (by decide) v n xs hown ad 1 1 [y] rfl (fun j u hj => by
    cases j with
    | zero => simp at hj; subst hj; have : ad.add 0 = ad := by obtain ⟨b, f, s⟩ := ad; unfold Addr.add; split <;> simp_all
              rw [this]; exact hc
    | succ j => simp at hj) (by simpa using h1) (by unfold maxLen; omega) (by omega) hbase
  unfold Oper.wp execOp
  simp only [ho, resolve, invoke, builtin, Sem.run_bind, Sem.run_pure, Result.andThen_ok, List.map_toArray, List.map_cons, List.map_nil, hs, hx, hrun]
  exact h v' w' h2 h3 h4
theorem PkS.cells {w0 W : World} {P N B ls k n c nb nS : Nat} {len : Int} {pk bs ss : List Nat} {A : Option Addr} {v1 v2 : Value} (h : PkS w0 W P N B ls k len n c pk bs ss nb nS A v1 v2) :
    (W.cell? ⟨P, 1, none⟩ = some (.int .i64 (B : Int)) ∧ W.cell? ⟨P, 2, none⟩ = some (.int .i64 (ls : Int)) ∧ W.cell? ⟨P, 3, none⟩ = some (.int .i64 (k : Int))) ∧ (W.cell? ⟨P, 4, none⟩ = some (.int .i64 len) ∧ W.cell? ⟨P, 5, none⟩ = some (.slice A n c)) ∧ W.cell? ⟨P, 6, none⟩ = some v1 ∧ W.cell? ⟨P, 7, none⟩ = some v2 :=
  ⟨⟨(cell_at h.row 1).trans rfl, (cell_at h.row 2).trans rfl, (cell_at h.row 3).trans rfl⟩, ⟨(cell_at h.row 4).trans rfl, (cell_at h.row 5).trans rfl⟩, (cell_at h.row 6).trans rfl, (cell_at h.row 7).trans rfl⟩
theorem PkS.drew {w0 W : World} {P N B ls k n c nb nS : Nat} {len : Int} {pk bs ss : List Nat} {A : Option Addr} {v1 v2 : Value} (h : PkS w0 W P N B ls k len n c pk bs ss nb nS A v1 v2) : PkS w0 W.drew P N B ls k len n c pk bs ss nb nS A v1 v2 := h.on (Below.refl _ W).drew
theorem box_set {w0 V w5 : World} {P N B ls k n c nb nS : Nat} {len : Int} {pk bs ss : List Nat} {A : Option Addr} {v1 v2 : Value} {b : Nat} {len2 : Int} {A2 : Option Addr} {n2 c2 : Nat} {pk2 : List Nat} (h : PkS w0 V P N B ls k len n c pk bs ss nb nS A v1 v2) (hb : Below V.heap.size V w5) (hz : w5.heap[b]? = some (.cells #[.int .i64 0, .slice none 0 0] 27 (0, 0))) (hbV : V.heap.size ≤ b) (R : Rd w5 w5.heap.size A2 pk2) (hf : ∀ g, (Value.slice A2 n2 c2).ownBlock = some g → V.heap.size ≤ g) :
    PkS w0 ((w5.setCell ⟨b, 0, none⟩ (.int .i64 len2)).setCell ⟨b, 1, none⟩ (.slice A2 n2 c2)) P N B ls k len n c pk bs ss nb nS A v1 v2 ∧ BxB P v1 v2 ((w5.setCell ⟨b, 0, none⟩ (.int .i64 len2)).setCell ⟨b, 1, none⟩ (.slice A2 n2 c2)) b len2 A2 n2 c2 pk2 ∧ Below V.heap.size V ((w5.setCell ⟨b, 0, none⟩ (.int .i64 len2)).setCell ⟨b, 1, none⟩ (.slice A2 n2 c2)) := by
  have hP := h.lt
  have hE := e9_set (w1 := V) (len := len2) (n := n2) (c := c2) hb hbV hz R
  refine ⟨h.on hE.low, ⟨hE.row, hE.rd, fun h0 b2 off e => ?_, by omega⟩, hE.low⟩
  subst e
  have := hf b2 rfl
  refine ⟨by omega, fun e => ?_, fun e => ?_⟩
  · have := (own_lt h.own1 e).2.1; omega
  · have := (own_lt h.own2 e).2.1; omega
theorem box_new {w0 V w5 : World} {P N B ls k n c nb nS : Nat} {len : Int} {pk bs ss : List Nat} {A : Option Addr} {v1 v2 : Value} {len2 : Int} {A2 : Option Addr} {n2 c2 : Nat} {pk2 : List Nat} (h : PkS w0 V P N B ls k len n c pk bs ss nb nS A v1 v2) (hb : Below V.heap.size V w5) (R : Rd w5 w5.heap.size A2 pk2) (hf : ∀ g, (Value.slice A2 n2 c2).ownBlock = some g → V.heap.size ≤ g) :
    PkS w0 (w5.alloc (.cells #[.int .i64 len2, .slice A2 n2 c2] 27)) P N B ls k len n c pk bs ss nb nS A v1 v2 ∧ BxB P v1 v2 (w5.alloc (.cells #[.int .i64 len2, .slice A2 n2 c2] 27)) w5.heap.size len2 A2 n2 c2 pk2 ∧ Below V.heap.size V (w5.alloc (.cells #[.int .i64 len2, .slice A2 n2 c2] 27)) := by
  have hP := h.lt
  have hE := e9_new (w1 := V) (len := len2) (n := n2) (c := c2) hb R
  refine ⟨h.on hE.low, ⟨hE.row, hE.rd, fun h0 b2 off e => ?_, by have := hb.size; omega⟩, hE.low⟩
  subst e
  have := hf b2 rfl
  refine ⟨by omega, fun e => ?_, fun e => ?_⟩
  · have := (own_lt h.own1 e).2.1; omega
  · have := (own_lt h.own2 e).2.1; omega
set_option maxHeartbeats 4000000 in
theorem add_ok {g : List (List Nat)} {R : List Rw} (h : GrR g R) (N : Nat) (hN : R.length = N) (B ls k : Nat) (hB : B ≤ 7) (hls : ls = 0 ∨ 2 ≤ ls ∧ ls ≤ 300) (hk : 1 ≤ k) (hk2 : k ≤ 16) (i : Nat) (hi : i < N) (P : Nat) (AG : Option Addr) (cG : Nat) (w0 w : World) (hG : RdG w0 w0.heap.size AG R)
    (L ND L2 : List Bool) (hND : ndB B ls k g i (bst B ls k g i) = ND) (hL2 : L ++ ND = L2) (hfit : L2.length ≤ 8192) (bs ss : List Nat) (nb nS : Nat) (hnb : nb ≤ 1000) (hnS : nS ≤ 1000) (c : Nat) (A : Option Addr) (v1 v2 : Value)
    (hS : PkS w0 w P N B ls k (L.length : Int) (pack L).length c (pack L) bs ss nb nS A v1 v2) :
    Calls Tryz.prog 116 #[.pointer (some ⟨P, 0, none⟩), .int .i64 (i : Int), .slice AG N cG] w fun e w' => e = .returned (.int .i64 0) ∧ ∃ A' c' v1' v2', PkS w0 w' P N B ls k (L2.length : Int) (pack L2).length c' (pack L2) (bs ++ [bst B ls k g i]) (ss ++ [L.length]) (nb + 1) (nS + 1) A' v1' v2' := by
  obtain ⟨i0, hi0, hz0, hz1, hz2⟩ := info_parts info_intK
  obtain ⟨m, hm⟩ : ∃ m, bst B ls k g i = m := ⟨_, rfl⟩
  have hcs := hS.cells
  have HFw := Lib.hid (fewest_ok h N hN B ls k hB hls hk hk2 i hi P AG cG ND hND (m : Int) (by rw [hm]) w (hG.below hS.low hS.low.size) hS.lt hcs.1.1 hcs.1.2.1 hcs.1.2.2)
  have HL2 : Hid (L.length + ND.length ≤ 8192 ∧ L2 = L ++ ND) := ⟨by rw [← List.length_append, hL2]; exact hfit, hL2.symm⟩
  have HS := Lib.hid hS
  rw [hm]
  clear hm hND hL2 hfit hS hcs h hN hB hls hk hk2 hi hG
  go_enter Tryz.func116, Tryz.ntmps116
  go_wp2_with fail
  refine HFw.out.mono ?_
  rintro e w2 ⟨A2, c2, rfl, r2, q2⟩
  have HE3 := Lib.hid (e9_new (w1 := w2) (len := (ND.length : Int)) (n := (pack ND).length) (c := c2) (Below.refl _ _) r2)
  have HS3 := Lib.hid (HS.out.on (q2.trans ((one_below w2 (.cells #[.int .i64 (ND.length : Int), .slice A2 (pack ND).length c2] 27)).mono q2.size)))
  obtain ⟨b8, hb8⟩ : ∃ b8, w2.heap.size = b8 := ⟨_, rfl⟩
  rw [hb8] at HE3
  obtain ⟨W3, hW3⟩ : ∃ W3, w2.alloc (.cells #[.int .i64 (ND.length : Int), .slice A2 (pack ND).length c2] 27) = W3 := ⟨_, rfl⟩
  rw [hW3] at HE3 HS3
  obtain ⟨x0, x1⟩ := HE3.out.cells
  obtain ⟨-, ⟨u4, u5⟩, u6, u7⟩ := HS3.out.cells
  have HCell : Hid (∀ V, Below W3.heap.size W3 V → V.cell? ⟨P, 4, none⟩ = some (.int .i64 (L.length : Int)) ∧ V.cell? ⟨P, 5, none⟩ = some (.slice A (pack L).length c) ∧ V.cell? ⟨b8, 0, none⟩ = some (.int .i64 (ND.length : Int)) ∧ V.cell? ⟨b8, 1, none⟩ = some (.slice A2 (pack ND).length c2)) := fun V hV =>
    ⟨(hV.cell (p := ⟨P, 4, none⟩) HS3.out.lt).trans u4, (hV.cell (p := ⟨P, 5, none⟩) HS3.out.lt).trans u5, (hV.cell (p := ⟨b8, 0, none⟩) HE3.out.lt).trans x0, (hV.cell (p := ⟨b8, 1, none⟩) HE3.out.lt).trans x1⟩
  have HJn : Hid (∀ V, Below W3.heap.size W3 V → Calls Tryz.prog 23 #[.agg #[.int .i64 (L.length : Int), .slice A (pack L).length c], .agg #[.int .i64 (ND.length : Int), .slice A2 (pack ND).length c2]] V (GaveF V L2)) := fun V hV =>
    join_f L ND L2 (by have := HL2.out.1; omega) (by have := HL2.out.1; omega) A A2 c c2 V (HS3.out.rd.below hV hV.size) (HE3.out.rd.below hV hV.size) HL2.out.2 HL2.out.1
  have HB3 : Hid (Below W3.heap.size W3 W3.drew) := (Below.refl _ W3).drew
  have HB3z : Hid (Below W3.heap.size W3 (W3.drew.alloc (.cells #[.int .i64 0, .slice none 0 0] 27))) := HB3.out.trans (one_below W3.drew _)
  clear HS HFw q2 r2 HE3
  go_wp2
  clear hW3 hb8 u6 u7
  go_region_held3 (fun w' => w'.cell? ⟨P, 4, none⟩ = some (.int .i64 (L.length : Int)) ∧ w'.cell? ⟨P, 5, none⟩ = some (.slice A (pack L).length c) ∧ w'.cell? ⟨b8, 0, none⟩ = some (.int .i64 (ND.length : Int)) ∧ w'.cell? ⟨b8, 1, none⟩ = some (.slice A2 (pack ND).length c2))
    ((first | exact HCell.out _ HB7.out | exact HCell.out _ HB6z.out | exact HCell.out _ HB6.out | exact HCell.out _ HB3z.out | exact HCell.out _ HB3.out))
    (first
      | (go_at_call 23; first
          | (refine (HJn.out (W3.drew.alloc (.cells #[.int .i64 0, .slice none 0 0] 27)) HB3z.out).mono ?_; rintro e w5 ⟨A5, c5, rfl, r5, q5, f5⟩; have hz5 : w5.heap[W3.heap.size]? = some (.cells #[.int .i64 0, .slice none 0 0] 27 (0, 0)) := (q5.block _ (by rw [World.size_alloc]; exact Nat.lt_succ_self _)).trans (World.alloc_heap_new W3.drew _); have HB6 : Hid (Below W3.heap.size W3 w5) := HB3z.out.trans (q5.mono (by rw [World.size_alloc]; exact Nat.le_succ _)); obtain ⟨y0, y1, y2, y3⟩ := blk_cells hz5; have hq := box_set (len2 := (L2.length : Int)) (n2 := (pack L2).length) (c2 := c5) HS3.out HB6.out hz5 (Nat.le_refl _) r5 (fun g hg => Nat.le_trans (by rw [World.size_alloc]; exact Nat.le_succ _) (f5 g hg)); obtain ⟨b9, hb9⟩ : ∃ b9, W3.heap.size = b9 := ⟨_, rfl⟩; obtain ⟨W6, hW6⟩ : ∃ W6, (w5.setCell ⟨b9, 0, none⟩ (.int .i64 (L2.length : Int))).setCell ⟨b9, 1, none⟩ (.slice A5 (pack L2).length c5) = W6 := ⟨_, rfl⟩; have HB7 : Hid (Below W3.heap.size W3 W6) := by { rw [← hW6, ← hb9]; exact hq.2.2 }; have hq1 := hq.1; have hq2 := hq.2.1; rw [hb9, hW6] at hq1 hq2; rw [hb9] at y0 y1 y2 y3; have HQ1 := Lib.hid hq1; have HQ2 := Lib.hid hq2; clear hq hq1 hq2 q5 f5 r5 hz5)
          | (refine (HJn.out W3.drew HB3.out).mono ?_; rintro e w5 ⟨A5, c5, rfl, r5, q5, f5⟩; have HB6 : Hid (Below W3.heap.size W3 w5) := HB3.out.trans q5; have HB6z : Hid (Below W3.heap.size W3 (w5.alloc (.cells #[.int .i64 0, .slice none 0 0] 27))) := HB6.out.trans ((one_below w5 _).mono HB6.out.size); have hq := box_new (len2 := (L2.length : Int)) (n2 := (pack L2).length) (c2 := c5) HS3.out HB6.out r5 f5; obtain ⟨W6, hW6⟩ : ∃ W6, w5.alloc (.cells #[.int .i64 (L2.length : Int), .slice A5 (pack L2).length c5] 27) = W6 := ⟨_, rfl⟩; have HB7 : Hid (Below W3.heap.size W3 W6) := by { rw [← hW6]; exact hq.2.2 }; obtain ⟨b9, hb9⟩ : ∃ b9, w5.heap.size = b9 := ⟨_, rfl⟩; have hq1 := hq.1; have hq2 := hq.2.1; rw [hW6] at hq1; rw [hb9, hW6] at hq2; have HQ1 := Lib.hid hq1; have HQ2 := Lib.hid hq2; clear hq hq1 hq2 q5 f5 r5))
      | fail)
  all_goals (
    obtain ⟨-, -, u6, u7⟩ := HQ1.out.cells
    clear HB7 HB6 HB3 HB3z HJn HCell HS3 hW6 hb9 u4 u5 x0 x1
    go_wp2_with (at_builtin; refine wpList_append_own_at _ rfl _ _ 22 rfl (P + 1) 3 i0 (.int .i64 0) 1 8 Tryz.underlying22 hi0 hz0 hz1 hz2 rfl (by decide) _ _ _ rfl (HQ1.out.own1.alloc _) ⟨W6.heap.size, 0, none⟩ 1 1 [.int .i64 (m : Int)] rfl rfl (news_row W6 [.int .i64 (m : Int)] _) (by simp [Value.oneCell']) (by unfold maxLen; omega) (by omega) (by have := HQ1.out.lt; simp; omega) ?_; intro v1' Y hown' hgrow hnil hloc; clear hnil; obtain ⟨A1', c1', rfl⟩ := own_sliceK hown'; obtain ⟨⟨k6, f6⟩, hS7⟩ := HQ1.out.app1 hgrow hown' hloc; have hX7 := HQ2.out.app1 HQ1.out hgrow hloc; obtain ⟨W7, hW7⟩ : ∃ W7, Y.setCell ⟨P, 6, none⟩ (.slice A1' (nb + 1) c1') = W7 := ⟨_, rfl⟩; rw [hW7] at hS7 hX7; have HS7 := Lib.hid hS7; have HX7 := Lib.hid hX7; obtain ⟨-, ⟨u4, u5⟩, u8, u9⟩ := HS7.out.cells; clear hS7 hX7 hgrow hown' hloc)
    have HD := Lib.hid HS7.out.drew
    have HDX : Hid (BxB P _ _ W7.drew _ _ _ _ _ _) := ⟨HX7.out.row, HX7.out.rd, HX7.out.ap, HX7.out.ne⟩
    have z7 : (W7.alloc (.cells #[.int .i64 (L.length : Int)] 3)).cell? ⟨P, 7, none⟩ = some v2 := ((one_below W7 _).cell (p := ⟨P, 7, none⟩) HS7.out.lt).trans u9
    clear k6 f6 hW7 u6 u7 u5 u8
    go_region_law
      ((refine app_pk (by rfl) (.tmp 45) (.tmp 52) (by rfl) (P + 1) v2 nS (zc (ns ss)) (by rfl) (HD.out.own2.alloc _) ⟨W7.drew.heap.size, 0, none⟩ (.int .i64 (L.length : Int)) (by rfl) ((cell_at (World.alloc_heap_new W7.drew _) 0).trans rfl) rfl (by omega) (by have := HS7.out.lt; show _ ≤ (W7.alloc _).heap.size; simp; omega) ?_; intro v' w4 hown' hgrow hloc; obtain ⟨A2', c2', rfl⟩ := own_sliceK hown'; obtain ⟨⟨k7, f7⟩, hS8⟩ := HD.out.app2 hgrow hown' hloc; have hX8 := HDX.out.app2 HD.out hgrow hloc; have HS8 := Lib.hid hS8; have HX8 := Lib.hid hX8; clear hS8 hX8 hgrow hown' hloc))
    all_goals (
      obtain ⟨W8, hW8⟩ : ∃ W8, w4.setCell ⟨P, 7, none⟩ (.slice A2' (nS + 1) c2') = W8 := ⟨_, rfl⟩
      rw [hW8] at HS8 HX8 ⊢
      clear hW8 k7 f7 z7 u4 u9
      obtain ⟨-, ⟨u4, u5⟩, -, -⟩ := HS8.out.cells
      have f4 := frz_at HS8.out.row 4
      have f5 := frz_at HS8.out.row 5
      have x0 : W8.cell? ⟨b9, 0, none⟩ = some (.int .i64 (L2.length : Int)) := (cell_at HX8.out.row 0).trans rfl
      have x1 := (cell_at HX8.out.row 1).trans rfl
      have HFin := Lib.hid (HS8.out.bits HX8.out)
      clear HS8 HX8 HD HDX HS7 HX7 HQ1 HQ2
      go_wp2
      go_ret
      exact ⟨rfl, _, _, _, _, HFin.out⟩))
set_option maxHeartbeats 4000000 in
/-- A node's bits that don't fit any more: nothing is told but that. -/
theorem add_full {g : List (List Nat)} {R : List Rw} (h : GrR g R) (N : Nat) (hN : R.length = N) (B ls k : Nat) (hB : B ≤ 7) (hls : ls = 0 ∨ 2 ≤ ls ∧ ls ≤ 300) (hk : 1 ≤ k) (hk2 : k ≤ 16) (i : Nat) (hi : i < N) (P : Nat) (AG : Option Addr) (cG : Nat) (w0 w : World) (hG : RdG w0 w0.heap.size AG R)
    (L ND : List Bool) (hND : ndB B ls k g i (bst B ls k g i) = ND) (hL : L.length ≤ 8192) (hfull : 8192 < L.length + ND.length) (bs ss : List Nat) (nb nS : Nat) (c : Nat) (A : Option Addr) (v1 v2 : Value)
    (hS : PkS w0 w P N B ls k (L.length : Int) (pack L).length c (pack L) bs ss nb nS A v1 v2) :
    Calls Tryz.prog 116 #[.pointer (some ⟨P, 0, none⟩), .int .i64 (i : Int), .slice AG N cG] w fun e w' => e = .returned (.int .i64 8) ∧ Below w.heap.size w w' := by
  obtain ⟨m, hm⟩ : ∃ m, bst B ls k g i = m := ⟨_, rfl⟩
  have hcs := hS.cells
  have HFw := Lib.hid (fewest_ok h N hN B ls k hB hls hk hk2 i hi P AG cG ND hND (m : Int) (by rw [hm]) w (hG.below hS.low hS.low.size) hS.lt hcs.1.1 hcs.1.2.1 hcs.1.2.2)
  have hroom := ndB_room B ls k hB hk hk2 g h.ok i (bst B ls k g i) (by have := h.len; omega) (bst_le B ls k g i)
  rw [hND] at hroom
  have HL2 : Hid (8192 < L.length + ND.length ∧ L.length ≤ 8192 ∧ ND.length ≤ 8192) := ⟨hfull, hL, by omega⟩
  have HS := Lib.hid hS
  clear hm hND hfull hL hroom hS hcs h hN hB hls hk hk2 hi hG
  go_enter Tryz.func116, Tryz.ntmps116
  go_wp2_with fail
  refine HFw.out.mono ?_
  rintro e w2 ⟨A2, c2, rfl, r2, q2⟩
  have HE3 := Lib.hid (e9_new (w1 := w2) (len := (ND.length : Int)) (n := (pack ND).length) (c := c2) (Below.refl _ _) r2)
  have HW3 : Hid (Below w.heap.size w (w2.alloc (.cells #[.int .i64 (ND.length : Int), .slice A2 (pack ND).length c2] 27))) := q2.trans ((one_below w2 _).mono q2.size)
  have HS3 := Lib.hid (HS.out.on HW3.out)
  obtain ⟨b8, hb8⟩ : ∃ b8, w2.heap.size = b8 := ⟨_, rfl⟩
  rw [hb8] at HE3
  obtain ⟨W3, hW3⟩ : ∃ W3, w2.alloc (.cells #[.int .i64 (ND.length : Int), .slice A2 (pack ND).length c2] 27) = W3 := ⟨_, rfl⟩
  rw [hW3] at HE3 HS3 HW3
  obtain ⟨x0, x1⟩ := HE3.out.cells
  obtain ⟨-, ⟨u4, u5⟩, u6, u7⟩ := HS3.out.cells
  have HCell : Hid (∀ V, Below W3.heap.size W3 V → V.cell? ⟨P, 4, none⟩ = some (.int .i64 (L.length : Int)) ∧ V.cell? ⟨P, 5, none⟩ = some (.slice A (pack L).length c) ∧ V.cell? ⟨b8, 0, none⟩ = some (.int .i64 (ND.length : Int)) ∧ V.cell? ⟨b8, 1, none⟩ = some (.slice A2 (pack ND).length c2)) := fun V hV =>
    ⟨(hV.cell (p := ⟨P, 4, none⟩) HS3.out.lt).trans u4, (hV.cell (p := ⟨P, 5, none⟩) HS3.out.lt).trans u5, (hV.cell (p := ⟨b8, 0, none⟩) HE3.out.lt).trans x0, (hV.cell (p := ⟨b8, 1, none⟩) HE3.out.lt).trans x1⟩
  have HJn : Hid (∀ V, Below W3.heap.size W3 V → Calls Tryz.prog 23 #[.agg #[.int .i64 (L.length : Int), .slice A (pack L).length c], .agg #[.int .i64 (ND.length : Int), .slice A2 (pack ND).length c2]] V (Gv V 0 0 (pack []) 8)) := fun V hV =>
    join_l8 L ND HL2.out.2.1 HL2.out.2.2 A A2 c c2 HL2.out.1 V (HS3.out.rd.below hV hV.size) (HE3.out.rd.below hV hV.size)
  have HB3 : Hid (Below W3.heap.size W3 W3.drew) := (Below.refl _ W3).drew
  have HB3z : Hid (Below W3.heap.size W3 (W3.drew.alloc (.cells #[.int .i64 0, .slice none 0 0] 27))) := HB3.out.trans (one_below W3.drew _)
  clear HS HFw q2 r2 HE3
  go_wp2
  clear hW3 hb8 u6 u7
  go_region_held3 (fun w' => w'.cell? ⟨P, 4, none⟩ = some (.int .i64 (L.length : Int)) ∧ w'.cell? ⟨P, 5, none⟩ = some (.slice A (pack L).length c) ∧ w'.cell? ⟨b8, 0, none⟩ = some (.int .i64 (ND.length : Int)) ∧ w'.cell? ⟨b8, 1, none⟩ = some (.slice A2 (pack ND).length c2))
    ((first | exact HCell.out _ HB7.out | exact HCell.out _ HB6z.out | exact HCell.out _ HB6.out | exact HCell.out _ HB3z.out | exact HCell.out _ HB3.out))
    (first
      | (go_at_call 23; first
          | (refine (HJn.out (W3.drew.alloc (.cells #[.int .i64 0, .slice none 0 0] 27)) HB3z.out).mono ?_; rintro e w5 ⟨A5, c5, rfl, r5, q5⟩; have hz5 : w5.heap[W3.heap.size]? = some (.cells #[.int .i64 0, .slice none 0 0] 27 (0, 0)) := (q5.block _ (by rw [World.size_alloc]; exact Nat.lt_succ_self _)).trans (World.alloc_heap_new W3.drew _); have HB6 : Hid (Below W3.heap.size W3 w5) := HB3z.out.trans (q5.mono (by rw [World.size_alloc]; exact Nat.le_succ _)); obtain ⟨y0, y1, y2, y3⟩ := blk_cells hz5; obtain ⟨b9, hb9⟩ : ∃ b9, W3.heap.size = b9 := ⟨_, rfl⟩; obtain ⟨W6, hW6⟩ : ∃ W6, (w5.setCell ⟨b9, 0, none⟩ (.int .i64 0)).setCell ⟨b9, 1, none⟩ (.slice A5 0 c5) = W6 := ⟨_, rfl⟩; have HB7 : Hid (Below W3.heap.size W3 W6) := by { rw [← hW6, ← hb9]; exact (HB6.out.setCell (p := ⟨W3.heap.size, 0, none⟩) (Nat.le_refl _) _).setCell (p := ⟨W3.heap.size, 1, none⟩) (Nat.le_refl _) _ }; rw [hb9] at y0 y1 y2 y3; clear q5 r5 hz5)
          | (refine (HJn.out W3.drew HB3.out).mono ?_; rintro e w5 ⟨A5, c5, rfl, r5, q5⟩; have HB6 : Hid (Below W3.heap.size W3 w5) := HB3.out.trans q5; have HB6z : Hid (Below W3.heap.size W3 (w5.alloc (.cells #[.int .i64 0, .slice none 0 0] 27))) := HB6.out.trans ((one_below w5 _).mono HB6.out.size); obtain ⟨W6, hW6⟩ : ∃ W6, w5.alloc (.cells #[.int .i64 0, .slice A5 0 c5] 27) = W6 := ⟨_, rfl⟩; have HB7 : Hid (Below W3.heap.size W3 W6) := by { rw [← hW6]; exact HB6.out.trans ((one_below w5 _).mono HB6.out.size) }; clear q5 r5))
      | fail)
  all_goals (
    go_wp2
    go_ret
    exact ⟨rfl, HW3.out.trans (HB7.out.mono HW3.out.size)⟩)
end
end Go.Proofs.YtbddcokjkdoaaaaGreat
