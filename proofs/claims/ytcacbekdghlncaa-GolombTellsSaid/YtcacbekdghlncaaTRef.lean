/- The document's own GolombRead; with its conditions. -/
import Derived.Test.YtcacbekdghlncaaRefG
import Derived.Test.YtcacbekdghlncaaGWrite
import Derived.Test.YtcacbekdghlncaaGBegun
import Derived.Test.YtcacbekdghlncaaRefU
import Derived.Test.YtcacbekdghlncaaRefPack
import Derived.Test.YtcacbekdghlncaaOpen
import Derived.Deep.RegionHeld3
namespace Go.Proofs.Ytcacbekdghlncaa

section
set_option maxRecDepth 100000
set_option linter.unusedVariables false
open Go.RowKit

theorem mulQ (h k s : Nat) (hs : h * k = s) : ((h : Int) * (k : Int)) = (s : Int) := by rw [← hs]; simp
set_option maxHeartbeats 1000000 in
theorem golombRead_any (l : List Bool) (N : Nat) (hl : l.length = N) (hN : N ≤ 8192) (A : Option Addr) (c s m : Nat) (hs : s ≤ N) (h1 : 1 ≤ m) (h2 : m ≤ 1099511627776) (r : Nat × Nat × Int) (hr : r = golR l s m) (w : World) (h : RdV w w.heap.size A (ic l)) :
    Calls Try.prog 42 #[.slice A N c, .int .i64 (s : Int), .int .u64 (m : Int)] w (ReadP w r.1 r.2.1 r.2.2) := by
  have HU := Lib.hid (ur_l l N hl hN A c s hs w h)
  have hb := uR_bound l s (by omega)
  unfold golR at hr
  generalize uR l s = u at *
  obtain ⟨q, fr, e0⟩ := u
  simp only at hb hr HU
  by_cases h0 : e0 = 0
  · subst h0
    rw [if_pos rfl] at HU
    rw [if_neg (by simp)] at hr
    have t0 : decide ((fr : Int) < 0) = false := by simp
    by_cases hq : 8128 ≤ q
    · rw [if_pos hq] at hr
      subst hr
      have t1 : decide ((8128 : Int) ≤ (q : Int)) = true := by simp; omega
      go_enter Try.func42, Try.ntmps42
      go_wp2_with fail
      refine HU.out.mono ?_
      rintro e _ ⟨rfl, rfl⟩
      go_wp2
      go_ret3
      exact ⟨rfl, Below.refl _ _⟩
    · rw [if_neg hq] at hr
      have t1 : decide ((8128 : Int) ≤ (q : Int)) = false := by simp; omega
      have HL : ∀ (rn : Nat) (rt : Int), (rn = (lstR l fr m).1 ∧ rt = if (lstR l fr m).2.2 = 0 then ((lstR l fr m).2.1 : Int) else -1) → Hid (Calls Try.prog 41 #[.slice A N c, .int .i64 (fr : Int), .int .u64 (m : Int)] w fun e w' => e = .returned (.tuple #[.int .u64 (rn : Int), .int .i64 rt]) ∧ w = w') := fun rn rt hh => leastRead_any l N hl hN A c fr m (by omega) h1 (by omega) _ rfl rn rt hh w h
      have hlb := lstR_bound l fr m h1 (by omega)
      have hy : q * m ≤ 8128 * 1099511627776 := Nat.mul_le_mul (by omega) h2
      unfold remR at hr
      simp only at hr
      generalize lstR l fr m = v at *
      obtain ⟨x, to, er⟩ := v
      simp only at hlb hr HL
      by_cases hr2 : er = 0
      · subst hr2
        rw [if_neg (by simp)] at hr
        have HX := HL x (to : Int) ⟨rfl, rfl⟩
        have t2 : decide ((to : Int) < 0) = false := by simp
        clear HL
        have HM := Lib.hid (mulQ q m _ rfl)
        generalize hyy : q * m = y at *
        by_cases h3 : 1099511627776 < y + x
        · rw [if_pos h3] at hr
          subst hr
          have t3 : decide ((1099511627776 : Int) < (y : Int) + (x : Int)) = true := by simp; omega
          go_enter Try.func42, Try.ntmps42
          go_wp2_with fail
          refine HU.out.mono ?_
          rintro e _ ⟨rfl, rfl⟩
          go_wp2_with fail
          refine HX.out.mono ?_
          rintro e _ ⟨rfl, rfl⟩
          go_wp2
          go_ret3
          exact ⟨rfl, Below.refl _ _⟩
        · rw [if_neg h3] at hr
          subst hr
          have t3 : decide ((1099511627776 : Int) < (y : Int) + (x : Int)) = false := by simp; omega
          go_enter Try.func42, Try.ntmps42
          go_wp2_with fail
          refine HU.out.mono ?_
          rintro e _ ⟨rfl, rfl⟩
          go_wp2_with fail
          refine HX.out.mono ?_
          rintro e _ ⟨rfl, rfl⟩
          go_wp2
          go_ret3
          exact ⟨by rw [← hyy]; go_num, Below.refl _ _⟩
      · rw [if_pos hr2] at hr
        obtain rfl : er = 7 := by omega
        have HX := HL x (-1) ⟨rfl, rfl⟩
        clear HL
        subst hr
        go_enter Try.func42, Try.ntmps42
        go_wp2_with fail
        refine HU.out.mono ?_
        rintro e _ ⟨rfl, rfl⟩
        go_wp2_with fail
        refine HX.out.mono ?_
        rintro e _ ⟨rfl, rfl⟩
        go_wp2
        go_ret3
        exact ⟨rfl, Below.refl _ _⟩
  · rw [if_neg h0] at HU
    rw [if_pos h0] at hr
    obtain rfl : e0 = 7 := by omega
    subst hr
    go_enter Try.func42, Try.ntmps42
    go_wp2_with fail
    refine HU.out.mono ?_
    rintro e _ ⟨rfl, rfl⟩
    go_wp2
    go_ret3
    exact ⟨rfl, Below.refl _ _⟩
end

section
set_option maxRecDepth 100000
set_option linter.unusedVariables false
open Go.RowKit

/-- What is behind two places for bits: what they hold, and that all below is as it was. -/
structure B2 (V w : World) (lX lY : Int) (nX nY : Nat) (A B : Option Addr) (c d : Nat) (bX bY : List Nat) : Prop where
  rx : Rd w w.heap.size A bX
  ry : Rd w w.heap.size B bY
  below : Below V.heap.size V w
  x : w.heap[V.heap.size]? = some (.cells #[.int .i64 lX, .slice A nX c] 25 (0, 0))
  y : w.heap[V.heap.size + 1]? = some (.cells #[.int .i64 lY, .slice B nY d] 25 (0, 0))
  size : V.heap.size + 1 < w.heap.size
theorem b2_zero (V : World) : ∃ w10, (V.alloc (.cells #[.int .i64 0, .slice none 0 0] 25)).alloc (.cells #[.int .i64 0, .slice none 0 0] 25) = w10 ∧ B2 V w10 0 0 0 0 none none 0 0 [] [] :=
  ⟨_, rfl, Rd.nil _ _ _, Rd.nil _ _ _, up2 V _ _, (Below.heap_alloc _ _ _ (by simp)).trans (World.alloc_heap_new V _),
    (by have := World.alloc_heap_new (V.alloc (.cells #[.int .i64 0, .slice none 0 0] 25)) (.cells #[.int .i64 0, .slice none 0 0] 25); rwa [World.size_alloc] at this), by rw [World.size_alloc, World.size_alloc]; omega⟩
theorem B2.on {V w w' : World} {lX lY : Int} {nX nY : Nat} {A B : Option Addr} {c d : Nat} {bX bY : List Nat} (h : B2 V w lX lY nX nY A B c d bX bY) (hb : Below w.heap.size w w') : B2 V w' lX lY nX nY A B c d bX bY :=
  ⟨h.rx.on hb, h.ry.on hb, h.below.trans (hb.mono h.below.size), (hb.block _ (by have := h.size; omega)).trans h.x, (hb.block _ h.size).trans h.y, Nat.lt_of_lt_of_le h.size hb.size⟩
theorem B2.setX {V w : World} {lX lY : Int} {nX nY : Nat} {A B : Option Addr} {c d : Nat} {bX bY : List Nat} (h : B2 V w lX lY nX nY A B c d bX bY) (l : Int) (n : Nat) (A' : Option Addr) (c' : Nat) (b' : List Nat) (R : Rd w w.heap.size A' b') :
    (w.cell? ⟨V.heap.size, 0, none⟩ = some (.int .i64 lX) ∧ w.cell? ⟨V.heap.size, 1, none⟩ = some (.slice A nX c) ∧ w.frozen? ⟨V.heap.size, 0, none⟩ = false ∧ w.frozen? ⟨V.heap.size, 1, none⟩ = false) ∧
    Hid (∃ w10, (w.setCell ⟨V.heap.size, 0, none⟩ (.int .i64 l)).setCell ⟨V.heap.size, 1, none⟩ (.slice A' n c') = w10 ∧ B2 V w10 l lY n nY A' B c' d b' bY) := by
  refine ⟨blk_cells h.x, _, rfl, ?_⟩
  have x1 : (w.setCell ⟨V.heap.size, 0, none⟩ (.int .i64 l)).heap[V.heap.size]? = some (.cells #[.int .i64 l, .slice A nX c] 25 (0, 0)) := by
    rw [heap_set_same _ _ _ _ 25 _ h.x]; simp
  have x2 : ((w.setCell ⟨V.heap.size, 0, none⟩ (.int .i64 l)).setCell ⟨V.heap.size, 1, none⟩ (.slice A' n c')).heap[V.heap.size]? = some (.cells #[.int .i64 l, .slice A' n c'] 25 (0, 0)) := by
    rw [heap_set_same _ _ _ _ 25 _ x1]; simp
  have ss : ((w.setCell ⟨V.heap.size, 0, none⟩ (.int .i64 l)).setCell ⟨V.heap.size, 1, none⟩ (.slice A' n c')).heap.size = w.heap.size := by simp [World.setCell]
  have rd : ∀ {C : Option Addr} {bs : List Nat}, Rd w w.heap.size C bs → Rd ((w.setCell ⟨V.heap.size, 0, none⟩ (.int .i64 l)).setCell ⟨V.heap.size, 1, none⟩ (.slice A' n c')) w.heap.size C bs := fun h' => (h'.setK (i := 0) (.int .i64 l) h.x).setK (i := 1) (.slice A' n c') x1
  exact ⟨by rw [ss]; exact rd R, by rw [ss]; exact rd h.ry, (h.below.setCell (p := ⟨V.heap.size, 0, none⟩) (Nat.le_refl _) _).setCell (p := ⟨V.heap.size, 1, none⟩) (Nat.le_refl _) _, x2,
    (Below.heap_setCell _ _ _ _ (by simp)).trans ((Below.heap_setCell _ _ _ _ (by simp)).trans h.y), by rw [ss]; exact h.size⟩
theorem B2.setY {V w : World} {lX lY : Int} {nX nY : Nat} {A B : Option Addr} {c d : Nat} {bX bY : List Nat} (h : B2 V w lX lY nX nY A B c d bX bY) (l : Int) (n : Nat) (A' : Option Addr) (c' : Nat) (b' : List Nat) (R : Rd w w.heap.size A' b') :
    (w.cell? ⟨V.heap.size + 1, 0, none⟩ = some (.int .i64 lY) ∧ w.cell? ⟨V.heap.size + 1, 1, none⟩ = some (.slice B nY d) ∧ w.frozen? ⟨V.heap.size + 1, 0, none⟩ = false ∧ w.frozen? ⟨V.heap.size + 1, 1, none⟩ = false) ∧
    Hid (∃ w10, (w.setCell ⟨V.heap.size + 1, 0, none⟩ (.int .i64 l)).setCell ⟨V.heap.size + 1, 1, none⟩ (.slice A' n c') = w10 ∧ B2 V w10 lX l nX n A A' c c' bX b') := by
  refine ⟨blk_cells h.y, _, rfl, ?_⟩
  have x1 : (w.setCell ⟨V.heap.size + 1, 0, none⟩ (.int .i64 l)).heap[V.heap.size + 1]? = some (.cells #[.int .i64 l, .slice B nY d] 25 (0, 0)) := by
    rw [heap_set_same _ _ _ _ 25 _ h.y]; simp
  have x2 : ((w.setCell ⟨V.heap.size + 1, 0, none⟩ (.int .i64 l)).setCell ⟨V.heap.size + 1, 1, none⟩ (.slice A' n c')).heap[V.heap.size + 1]? = some (.cells #[.int .i64 l, .slice A' n c'] 25 (0, 0)) := by
    rw [heap_set_same _ _ _ _ 25 _ x1]; simp
  have ss : ((w.setCell ⟨V.heap.size + 1, 0, none⟩ (.int .i64 l)).setCell ⟨V.heap.size + 1, 1, none⟩ (.slice A' n c')).heap.size = w.heap.size := by simp [World.setCell]
  have rd : ∀ {C : Option Addr} {bs : List Nat}, Rd w w.heap.size C bs → Rd ((w.setCell ⟨V.heap.size + 1, 0, none⟩ (.int .i64 l)).setCell ⟨V.heap.size + 1, 1, none⟩ (.slice A' n c')) w.heap.size C bs := fun h' => (h'.setK (i := 0) (.int .i64 l) h.y).setK (i := 1) (.slice A' n c') x1
  exact ⟨by rw [ss]; exact rd h.rx, by rw [ss]; exact rd R, (h.below.setCell (p := ⟨V.heap.size + 1, 0, none⟩) (Nat.le_succ _) _).setCell (p := ⟨V.heap.size + 1, 1, none⟩) (Nat.le_succ _) _,
    (Below.heap_setCell _ _ _ _ (by simp)).trans ((Below.heap_setCell _ _ _ _ (by simp)).trans h.x), x2, by rw [ss]; exact h.size⟩
end
end Go.Proofs.Ytcacbekdghlncaa
