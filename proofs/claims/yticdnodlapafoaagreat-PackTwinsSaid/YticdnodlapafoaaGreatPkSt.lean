/- The packer in memory: eight cells, two lists of the call's own, bits; what an append to one of the lists leaves as it was. -/
import Derived.Test.YticdnodlapafoaaGreatPkFew
import Derived.Test.YticdnodlapafoaaGreatPkJoin
import Derived.Maps.AppendAt
import Derived.Deep.RegionLaw
namespace Go.Proofs.YticdnodlapafoaaGreat
set_option maxRecDepth 100000
set_option linter.unusedVariables false
open Go.RowKit Go.Shelf

theorem info_intK : (Tryz.prog.info? 3).map (fun i => (i.zero, i.size, i.bytes)) = some (some (.int .i64 0), 1, 8) := by kernel_rfl
/-- Bits that lie apart from a block and from two lists. -/
def Apt (P : Nat) (v1 v2 : Value) (A : Option Addr) (bs : List Nat) : Prop :=
  bs ≠ [] → ∀ b off, A = some ⟨b, off, none⟩ → P < b ∧ v1.ownBlock ≠ some b ∧ v2.ownBlock ≠ some b
structure PkS (w0 W : World) (P N B ls k : Nat) (len : Int) (n c : Nat) (pk : List Nat) (bs ss : List Nat) (nb nS : Nat) (A : Option Addr) (v1 v2 : Value) : Prop where
  low : Below w0.heap.size w0 W
  ge : w0.heap.size ≤ P
  row : W.heap[P]? = some (.cells #[.int .i64 (N : Int), .int .i64 (B : Int), .int .i64 (ls : Int), .int .i64 (k : Int), .int .i64 len, .slice A n c, v1, v2] 103 (0, 0))
  rd : Rd W W.heap.size A pk
  own1 : W.ownsRow (P + 1) 3 1 v1 nb (zc (ns bs))
  own2 : W.ownsRow (P + 1) 3 1 v2 nS (zc (ns ss))
  ap : Apt P v1 v2 A pk
  dj : ∀ g, v1.ownBlock = some g → v2.ownBlock ≠ some g
theorem own_lt {W : World} {base k n : Nat} {T : TypeId} {v : Value} {xs : List Value} (h : W.ownsRow base T k v n xs) {g : Nat} (hg : v.ownBlock = some g) : base ≤ g ∧ g < W.heap.size ∧ ∃ cs, W.heap[g]? = some (.cells cs T (0, 0)) := by
  rcases h.2 with ⟨rfl, _⟩ | ⟨g', cap, cur, rfl, h1, h2, _⟩
  · simp [Value.ownBlock] at hg
  · have : g' = g := by simpa [Value.ownBlock] using hg
    subst this
    exact ⟨h1, (Array.getElem?_eq_some_iff.1 h2).1, _, h2⟩
theorem own_kept {X Y : World} {base k n : Nat} {T : TypeId} {v : Value} {xs : List Value} (h : X.ownsRow base T k v n xs) (hk : ∀ g, v.ownBlock = some g → Y.heap[g]? = X.heap[g]?) : Y.ownsRow base T k v n xs := by
  refine ⟨h.1, ?_⟩
  rcases h.2 with h0 | ⟨g, cap, cur, rfl, h1, h2, h3⟩
  · exact .inl h0
  · exact .inr ⟨g, cap, cur, rfl, h1, (hk g rfl).trans h2, h3⟩
theorem PkS.lt {w0 W : World} {P N B ls k n c nb nS : Nat} {len : Int} {pk bs ss : List Nat} {A : Option Addr} {v1 v2 : Value} (h : PkS w0 W P N B ls k len n c pk bs ss nb nS A v1 v2) : P < W.heap.size := (Array.getElem?_eq_some_iff.1 h.row).1
theorem PkS.on {w0 W X : World} {P N B ls k n c nb nS : Nat} {len : Int} {pk bs ss : List Nat} {A : Option Addr} {v1 v2 : Value} (h : PkS w0 W P N B ls k len n c pk bs ss nb nS A v1 v2) (hb : Below W.heap.size W X) : PkS w0 X P N B ls k len n c pk bs ss nb nS A v1 v2 :=
  ⟨h.low.trans (hb.mono h.low.size), h.ge, (hb.block _ h.lt).trans h.row, h.rd.below hb hb.size, own_kept h.own1 fun g hg => hb.block g (own_lt h.own1 hg).2.1, own_kept h.own2 fun g hg => hb.block g (own_lt h.own2 hg).2.1, h.ap, h.dj⟩
/-- Bits that lie apart stay, where all blocks stay but one list's and the packer's. -/
theorem rd_apt {W Z : World} {P : Nat} {u : Value} {A : Option Addr} {bs : List Nat} (h : Rd W W.heap.size A bs) (ha : bs ≠ [] → ∀ b off, A = some ⟨b, off, none⟩ → P ≠ b ∧ u.ownBlock ≠ some b) (hk : ∀ b, b < W.heap.size → u.ownBlock ≠ some b → b ≠ P → Z.heap[b]? = W.heap[b]?) (hs : W.heap.size ≤ Z.heap.size) : Rd Z Z.heap.size A bs := by
  rcases h with h | ⟨b, off, e, hb, hc⟩
  · exact .inl h
  · by_cases h0 : bs = []
    · exact .inl h0
    · obtain ⟨p1, p2⟩ := ha h0 b off e
      exact .inr ⟨b, off, e, by omega, fun i hi => (World.cell?_of_block (w := W) (a := ⟨b, off + i, none⟩) (hk b hb p2 (fun q => p1 q.symm))).trans (hc i hi)⟩
/-- What an append leaves as it was, once its list is stored in the packer. -/
theorem app_keep {W Y : World} {P j : Nat} {u u' : Value} {o : Obj} (hg : (W.alloc o).grownBy Y u.ownBlock) : (∀ b, b < W.heap.size → u.ownBlock ≠ some b → b ≠ P → (Y.setCell ⟨P, j, none⟩ u').heap[b]? = W.heap[b]?) ∧ W.heap.size ≤ (Y.setCell ⟨P, j, none⟩ u').heap.size := by
  refine ⟨fun b hb h1 h2 => ?_, by have := hg.size; rw [World.size_alloc] at this; simp [World.setCell]; omega⟩
  rw [Below.heap_setCell Y ⟨P, j, none⟩ u' b h2, hg.block b (by rw [World.size_alloc]; omega) (fun e => h1 e.symm), Below.heap_alloc _ _ _ hb]
theorem app_row {W Y : World} {P : Nat} {u : Value} {o ob : Obj} (hg : (W.alloc o).grownBy Y u.ownBlock) (hP : W.heap[P]? = some ob) (hu : u.ownBlock ≠ some P) : Y.heap[P]? = some ob := by
  have hl := (Array.getElem?_eq_some_iff.1 hP).1
  rw [hg.block P (by rw [World.size_alloc]; omega) (fun e => hu e.symm), Below.heap_alloc _ _ _ hl]; exact hP
theorem zc_snoc (bs : List Nat) (x : Nat) : zc (ns (bs ++ [x])) = zc (ns bs) ++ [.int .i64 (x : Int)] := by simp [zc, ns]
/-- A number behind the first list. -/
theorem PkS.app1 {w0 W Y : World} {P N B ls k n c nb nS : Nat} {len : Int} {pk bs ss : List Nat} {A : Option Addr} {v1 v2 v' : Value} {o : Obj} {x : Nat} (h : PkS w0 W P N B ls k len n c pk bs ss nb nS A v1 v2)
    (hg : (W.alloc o).grownBy Y v1.ownBlock) (ho : Y.ownsRow (P + 1) 3 1 v' (nb + 1) (zc (ns bs) ++ [.int .i64 (x : Int)])) (hl : v'.ownBlock = v1.ownBlock ∨ v'.ownBlock = some (W.alloc o).heap.size) :
    (Y.cell? ⟨P, 6, none⟩ = some v1 ∧ Y.frozen? ⟨P, 6, none⟩ = false) ∧ PkS w0 (Y.setCell ⟨P, 6, none⟩ v') P N B ls k len n c pk (bs ++ [x]) ss (nb + 1) nS A v' v2 := by
  have hP := h.lt
  have hu : v1.ownBlock ≠ some P := fun e => by have := (own_lt h.own1 e).1; omega
  have hr := app_row hg h.row hu
  obtain ⟨hk, hs⟩ := app_keep (P := P) (j := 6) (u' := v') hg
  have hs2 : W.heap.size < (W.alloc o).heap.size := by rw [World.size_alloc]; omega
  refine ⟨⟨(cell_at hr 6).trans rfl, frz_at hr 6⟩, ?_, h.ge, ?_, rd_apt h.rd (fun h0 b off e => ⟨Nat.ne_of_lt (h.ap h0 b off e).1, (h.ap h0 b off e).2.1⟩) hk hs, ?_, ?_, ?_, ?_⟩
  · have hb : Below (P + 1) W Y := ((Below.refl _ W).alloc (by omega) o).trans (grown_low hg (h.own1.alloc _) (by rw [World.size_alloc]; omega))
    exact h.low.trans (((hb.mono (Nat.le_succ P)).setCell (p := ⟨P, 6, none⟩) (Nat.le_refl _) _).mono h.ge)
  · rw [heap_set_same _ _ _ _ 103 _ hr]; simp
  · rw [zc_snoc]; exact own_kept ho fun g hg => Below.heap_setCell Y ⟨P, 6, none⟩ v' g (fun e => by have := (own_lt ho hg).1; have : g = P := e; omega)
  · exact own_kept h.own2 fun g hg => hk g (own_lt h.own2 hg).2.1 (fun e => h.dj g e hg) (by have := (own_lt h.own2 hg).1; omega)
  · intro h0 b off e
    obtain ⟨p1, p2, p3⟩ := h.ap h0 b off e
    refine ⟨p1, fun q => ?_, p3⟩
    rcases hl with hl | hl
    · exact p2 (hl.symm.trans q)
    · have hbl : b < W.heap.size := by
        rcases h.rd with q2 | ⟨b2, off2, e2, hb2, _⟩
        · exact absurd q2 h0
        · rw [e] at e2; simp at e2; omega
      rw [hl] at q; simp at q; omega
  · intro g hg1 hg2
    rcases hl with hl | hl
    · exact h.dj g (hl.symm.trans hg1) hg2
    · have := (own_lt h.own2 hg2).2.1
      rw [hl] at hg1; simp at hg1; omega
/-- A number behind the second list. -/
theorem PkS.app2 {w0 W Y : World} {P N B ls k n c nb nS : Nat} {len : Int} {pk bs ss : List Nat} {A : Option Addr} {v1 v2 v' : Value} {o : Obj} {x : Nat} (h : PkS w0 W P N B ls k len n c pk bs ss nb nS A v1 v2)
    (hg : (W.alloc o).grownBy Y v2.ownBlock) (ho : Y.ownsRow (P + 1) 3 1 v' (nS + 1) (zc (ns ss) ++ [.int .i64 (x : Int)])) (hl : v'.ownBlock = v2.ownBlock ∨ v'.ownBlock = some (W.alloc o).heap.size) :
    (Y.cell? ⟨P, 7, none⟩ = some v2 ∧ Y.frozen? ⟨P, 7, none⟩ = false) ∧ PkS w0 (Y.setCell ⟨P, 7, none⟩ v') P N B ls k len n c pk bs (ss ++ [x]) nb (nS + 1) A v1 v' := by
  have hP := h.lt
  have hu : v2.ownBlock ≠ some P := fun e => by have := (own_lt h.own2 e).1; omega
  have hr := app_row hg h.row hu
  obtain ⟨hk, hs⟩ := app_keep (P := P) (j := 7) (u' := v') hg
  have hs2 : W.heap.size < (W.alloc o).heap.size := by rw [World.size_alloc]; omega
  refine ⟨⟨(cell_at hr 7).trans rfl, frz_at hr 7⟩, ?_, h.ge, ?_, rd_apt h.rd (fun h0 b off e => ⟨Nat.ne_of_lt (h.ap h0 b off e).1, (h.ap h0 b off e).2.2⟩) hk hs, ?_, ?_, ?_, ?_⟩
  · have hb : Below (P + 1) W Y := ((Below.refl _ W).alloc (by omega) o).trans (grown_low hg (h.own2.alloc _) (by rw [World.size_alloc]; omega))
    exact h.low.trans (((hb.mono (Nat.le_succ P)).setCell (p := ⟨P, 7, none⟩) (Nat.le_refl _) _).mono h.ge)
  · rw [heap_set_same _ _ _ _ 103 _ hr]; simp
  · exact own_kept h.own1 fun g hg => hk g (own_lt h.own1 hg).2.1 (fun e => h.dj g hg e) (by have := (own_lt h.own1 hg).1; omega)
  · rw [zc_snoc]; exact own_kept ho fun g hg => Below.heap_setCell Y ⟨P, 7, none⟩ v' g (fun e => by have := (own_lt ho hg).1; have : g = P := e; omega)
  · intro h0 b off e
    obtain ⟨p1, p2, p3⟩ := h.ap h0 b off e
    refine ⟨p1, p2, fun q => ?_⟩
    rcases hl with hl | hl
    · exact p3 (hl.symm.trans q)
    · have hbl : b < W.heap.size := by
        rcases h.rd with q2 | ⟨b2, off2, e2, hb2, _⟩
        · exact absurd q2 h0
        · rw [e] at e2; simp at e2; omega
      rw [hl] at q; simp at q; omega
  · intro g hg1 hg2
    rcases hl with hl | hl
    · exact h.dj g hg1 (hl.symm.trans hg2)
    · have := (own_lt h.own1 hg1).2.1
      rw [hl] at hg2; simp at hg2; omega
/-- A box of bits beside the packer. -/
structure BxB (P : Nat) (v1 v2 : Value) (W : World) (b : Nat) (len : Int) (A : Option Addr) (n c : Nat) (pk : List Nat) : Prop where
  row : W.heap[b]? = some (.cells #[.int .i64 len, .slice A n c] 27 (0, 0))
  rd : Rd W W.heap.size A pk
  ap : Apt P v1 v2 A pk
  ne : P ≠ b
theorem BxB.lt {P : Nat} {v1 v2 : Value} {W : World} {b : Nat} {len : Int} {A : Option Addr} {n c : Nat} {pk : List Nat} (h : BxB P v1 v2 W b len A n c pk) : b < W.heap.size := (Array.getElem?_eq_some_iff.1 h.row).1
theorem own_neB {W : World} {base k n b : Nat} {v : Value} {xs : List Value} {cs : Array Value} (h : W.ownsRow base 3 k v n xs) (hb : W.heap[b]? = some (.cells cs 27 (0, 0))) : v.ownBlock ≠ some b := fun e => by
  obtain ⟨_, _, cs2, h2⟩ := own_lt h e
  rw [hb] at h2
  simp at h2
theorem BxB.app1 {w0 W Y : World} {P N B ls k n c nb nS : Nat} {len : Int} {pk bs ss : List Nat} {A : Option Addr} {v1 v2 v' : Value} {o : Obj} {b : Nat} {len2 : Int} {A2 : Option Addr} {n2 c2 : Nat} {pk2 : List Nat} (hb : BxB P v1 v2 W b len2 A2 n2 c2 pk2) (h : PkS w0 W P N B ls k len n c pk bs ss nb nS A v1 v2)
    (hg : (W.alloc o).grownBy Y v1.ownBlock) (hl : v'.ownBlock = v1.ownBlock ∨ v'.ownBlock = some (W.alloc o).heap.size) : BxB P v' v2 (Y.setCell ⟨P, 6, none⟩ v') b len2 A2 n2 c2 pk2 := by
  obtain ⟨hk, hs⟩ := app_keep (P := P) (j := 6) (u' := v') hg
  have hs2 : W.heap.size < (W.alloc o).heap.size := by rw [World.size_alloc]; omega
  refine ⟨(hk b hb.lt (own_neB h.own1 hb.row) (fun e => hb.ne e.symm)).trans hb.row, rd_apt hb.rd (fun h0 b off e => ⟨Nat.ne_of_lt (hb.ap h0 b off e).1, (hb.ap h0 b off e).2.1⟩) hk hs, fun h0 b off e => ?_, hb.ne⟩
  obtain ⟨p1, p2, p3⟩ := hb.ap h0 b off e
  refine ⟨p1, fun q => ?_, p3⟩
  rcases hl with hl | hl
  · exact p2 (hl.symm.trans q)
  · have hbl : b < W.heap.size := by
      rcases hb.rd with q2 | ⟨b2, off2, e2, hb2, _⟩
      · exact absurd q2 h0
      · rw [e] at e2; simp at e2; omega
    rw [hl] at q; simp at q; omega
theorem BxB.app2 {w0 W Y : World} {P N B ls k n c nb nS : Nat} {len : Int} {pk bs ss : List Nat} {A : Option Addr} {v1 v2 v' : Value} {o : Obj} {b : Nat} {len2 : Int} {A2 : Option Addr} {n2 c2 : Nat} {pk2 : List Nat} (hb : BxB P v1 v2 W b len2 A2 n2 c2 pk2) (h : PkS w0 W P N B ls k len n c pk bs ss nb nS A v1 v2)
    (hg : (W.alloc o).grownBy Y v2.ownBlock) (hl : v'.ownBlock = v2.ownBlock ∨ v'.ownBlock = some (W.alloc o).heap.size) : BxB P v1 v' (Y.setCell ⟨P, 7, none⟩ v') b len2 A2 n2 c2 pk2 := by
  obtain ⟨hk, hs⟩ := app_keep (P := P) (j := 7) (u' := v') hg
  have hs2 : W.heap.size < (W.alloc o).heap.size := by rw [World.size_alloc]; omega
  refine ⟨(hk b hb.lt (own_neB h.own2 hb.row) (fun e => hb.ne e.symm)).trans hb.row, rd_apt hb.rd (fun h0 b off e => ⟨Nat.ne_of_lt (hb.ap h0 b off e).1, (hb.ap h0 b off e).2.2⟩) hk hs, fun h0 b off e => ?_, hb.ne⟩
  obtain ⟨p1, p2, p3⟩ := hb.ap h0 b off e
  refine ⟨p1, p2, fun q => ?_⟩
  rcases hl with hl | hl
  · exact p3 (hl.symm.trans q)
  · have hbl : b < W.heap.size := by
      rcases hb.rd with q2 | ⟨b2, off2, e2, hb2, _⟩
      · exact absurd q2 h0
      · rw [e] at e2; simp at e2; omega
    rw [hl] at q; simp at q; omega
/-- The box's bits become the packer's. -/
theorem PkS.bits {w0 W : World} {P N B ls k n c nb nS : Nat} {len : Int} {pk bs ss : List Nat} {A : Option Addr} {v1 v2 : Value} {b : Nat} {len2 : Int} {A2 : Option Addr} {n2 c2 : Nat} {pk2 : List Nat} (h : PkS w0 W P N B ls k len n c pk bs ss nb nS A v1 v2) (hb : BxB P v1 v2 W b len2 A2 n2 c2 pk2) :
    PkS w0 ((W.setCell ⟨P, 4, none⟩ (.int .i64 len2)).setCell ⟨P, 5, none⟩ (.slice A2 n2 c2)) P N B ls k len2 n2 c2 pk2 bs ss nb nS A2 v1 v2 := by
  have h1 : (W.setCell ⟨P, 4, none⟩ (.int .i64 len2)).heap[P]? = some (.cells #[.int .i64 (N : Int), .int .i64 (B : Int), .int .i64 (ls : Int), .int .i64 (k : Int), .int .i64 len2, .slice A n c, v1, v2] 103 (0, 0)) := by
    rw [heap_set_same _ _ _ _ 103 _ h.row]; simp
  have hk : ∀ g, g ≠ P → ((W.setCell ⟨P, 4, none⟩ (.int .i64 len2)).setCell ⟨P, 5, none⟩ (.slice A2 n2 c2)).heap[g]? = W.heap[g]? := fun g hg => by
    rw [Below.heap_setCell _ ⟨P, 5, none⟩ _ g hg, Below.heap_setCell W ⟨P, 4, none⟩ _ g hg]
  have hsz : ((W.setCell ⟨P, 4, none⟩ (.int .i64 len2)).setCell ⟨P, 5, none⟩ (.slice A2 n2 c2)).heap.size = W.heap.size := by simp [World.setCell]
  refine ⟨(h.low.setCell (p := ⟨P, 4, none⟩) h.ge _).setCell (p := ⟨P, 5, none⟩) h.ge _, h.ge, ?_, ?_, own_kept h.own1 fun g hg => hk g (fun e => by have := (own_lt h.own1 hg).1; omega), own_kept h.own2 fun g hg => hk g (fun e => by have := (own_lt h.own2 hg).1; omega), hb.ap, h.dj⟩
  · rw [heap_set_same _ _ _ _ 103 _ h1]; simp
  · exact rd_apt (P := P) (u := .slice none 0 0) hb.rd (fun h0 b off e => ⟨Nat.ne_of_lt (hb.ap h0 b off e).1, by simp [Value.ownBlock]⟩) (fun g _ _ hg => hk g hg) (by rw [hsz]; exact Nat.le_refl _)
end Go.Proofs.YticdnodlapafoaaGreat
