/- Texts of this proof, one behind the other; each fact names its conditions. -/
import Derived.Test.YtbddcokjkdoaaaaGreatSN9
import Derived.Test.YtbddcokjkdoaaaaGreatSN7
import Derived.Deep.RegionWith
import Derived.Test.YtbddcokjkdoaaaaGreatRows
import Derived.Shelf.SortM.Plain
import Derived.Shelf.SortM.SortNone
import Derived.Sort.OwnSortedInts
import Derived.Test.YtbddcokjkdoaaaaGreatSN8
import Derived.Deep.RegionHeld3
import Derived.Maps.OwnIn
import Derived.Stop.RegionWithIn
import Derived.Deep.LoopGhost
import Derived.Deep.Draws
namespace Go.Proofs.YtbddcokjkdoaaaaGreat
section
section
set_option maxRecDepth 100000
set_option linter.unusedVariables false
open Go.RowKit Go.Shelf
theorem Rd.set3 {w : World} {B K i : Nat} {A A' : Option Addr} {bs : List Nat} {a z : Int} {n c : Nat} {t : TypeId} (u : Value) (h : Rd w B A bs) (hK : w.heap[K]? = some (.cells #[.int .i64 a, .slice A' n c, .int .i64 z] t (0, 0))) : Rd (w.setCell ⟨K, i, none⟩ u) B A bs := by
  rcases h with h | ⟨b, off, rfl, hb, hc⟩
  · exact .inl h
  · by_cases h0 : bs = []
    · exact .inl h0
    · have hl : 0 < bs.length := List.length_pos_iff.2 h0
      have hne : b ≠ K := by
        rintro rfl
        have h1 := hc 0 hl
        simp only [World.cell?, hK] at h1
        rcases (show off = 0 ∨ off = 1 ∨ off = 2 ∨ 3 ≤ off by omega) with rfl | rfl | rfl | h2
        · simp at h1
        · simp at h1
        · simp at h1
        · rw [Array.getElem?_eq_none (by simp; omega)] at h1
          cases h1
      exact .inr ⟨b, off, rfl, hb, fun j hj => (World.cell?_setCell_other w _ ⟨b, off + j, none⟩ u (by intro e; exact hne (congrArg Addr.block e).symm)).trans (hc j hj)⟩
def WC (X : World) (P : Nat) (l : List Bool) : Prop :=
  ∃ (b : List Bool) (A : Option Addr) (c : Nat) (e : Int), X.heap[P]? = some (.cells #[.int .i64 (b.length : Int), .slice A (pack b).length c, .int .i64 e] 88 (0, 0)) ∧ Rd X X.heap.size A (pack b) ∧ ((l.length ≤ 8192 ∧ b = l ∧ e = 0) ∨ (8192 < l.length ∧ e = 8))
theorem WC.on {w V : World} {P : Nat} {l : List Bool} (h : WC w P l) (hb : Below w.heap.size w V) : WC V P l := by
  obtain ⟨b, A, c, e, h1, h2, h3⟩ := h
  exact ⟨b, A, c, e, (hb.block P (Array.getElem?_eq_some_iff.1 h1).1).trans h1, h2.on hb, h3⟩
def Code (X : World) (L : List Bool) (len : Int) (A : Option Addr) (n c : Nat) (err : Int) : Prop :=
  (L.length ≤ 8192 ∧ len = (L.length : Int) ∧ n = (pack L).length ∧ Rd X X.heap.size A (pack L) ∧ err = 0) ∨ (8192 < L.length ∧ err = 8)
def WB (P : Nat) (w w' : World) : Prop := w.grownBy w' (some P)
theorem wb_below {P : Nat} {w w' : World} (h : Below w.heap.size w w') : WB P w w' := grown_of_below h _
theorem WB.trans {P : Nat} {a b c : World} (h : WB P a b) (k : WB P b c) : WB P a c := grown_trans h k
theorem WB.low {P B : Nat} {w w' : World} (h : WB P w w') (hB : B ≤ P) (hs : P < w.heap.size) : Below B w w' :=
  ⟨h.os, h.tape, h.output, h.size, fun k hk => h.block k (by omega) (by simp; omega)⟩
theorem wb_set (w : World) (K i : Nat) (u : Value) : WB K w (w.setCell ⟨K, i, none⟩ u) := grown_set w K i u
def AddP (P : Nat) (w : World) (l : List Bool) (e : Ending) (w' : World) : Prop := e = .returned (.tuple #[]) ∧ WC w' P l ∧ WB P w w'
theorem heap_set3 (w : World) (K i : Nat) (u : Value) (cs : Array Value) (t : TypeId) (h : w.heap[K]? = some (.cells cs t (0, 0))) : (w.setCell ⟨K, i, none⟩ u).heap[K]? = some (.cells (cs.setIfInBounds i u) t (0, 0)) := heap_set_same _ _ _ _ _ _ h
theorem wc_store {w5 : World} {P : Nat} {A5 Ab : Option Addr} {c5 bn cb : Nat} {R l : List Bool} {eR bl z : Int} (hP : w5.heap[P]? = some (.cells #[.int .i64 bl, .slice Ab bn cb, .int .i64 z] 88 (0, 0))) (hR : Rd w5 w5.heap.size A5 (pack R)) (hc : (l.length ≤ 8192 ∧ R = l ∧ eR = 0) ∨ (8192 < l.length ∧ eR = 8)) :
    WC (((w5.setCell ⟨P, 0, none⟩ (.int .i64 (R.length : Int))).setCell ⟨P, 1, none⟩ (.slice A5 (pack R).length c5)).setCell ⟨P, 2, none⟩ (.int .i64 eR)) P l := by
  have h1 : (w5.setCell ⟨P, 0, none⟩ (.int .i64 (R.length : Int))).heap[P]? = some (.cells #[.int .i64 (R.length : Int), .slice Ab bn cb, .int .i64 z] 88 (0, 0)) := by rw [heap_set3 _ _ _ _ _ _ hP]; rfl
  have h2 : ((w5.setCell ⟨P, 0, none⟩ (.int .i64 (R.length : Int))).setCell ⟨P, 1, none⟩ (.slice A5 (pack R).length c5)).heap[P]? = some (.cells #[.int .i64 (R.length : Int), .slice A5 (pack R).length c5, .int .i64 z] 88 (0, 0)) := by rw [heap_set3 _ _ _ _ _ _ h1]; rfl
  refine ⟨R, A5, c5, eR, by rw [heap_set3 _ _ _ _ _ _ h2]; rfl, ?_, hc⟩
  have hsz : (((w5.setCell ⟨P, 0, none⟩ (.int .i64 (R.length : Int))).setCell ⟨P, 1, none⟩ (.slice A5 (pack R).length c5)).setCell ⟨P, 2, none⟩ (.int .i64 eR)).heap.size = w5.heap.size := by simp [World.setCell]
  rw [hsz]
  exact ((hR.set3 _ hP).set3 _ h1).set3 _ h2
theorem wc_err {w : World} {P : Nat} {b l : List Bool} {A : Option Addr} {c : Nat} {z : Int} (hP : w.heap[P]? = some (.cells #[.int .i64 (b.length : Int), .slice A (pack b).length c, .int .i64 z] 88 (0, 0))) (hR : Rd w w.heap.size A (pack b)) (hl : 8192 < l.length) : WC (w.setCell ⟨P, 2, none⟩ (.int .i64 8)) P l := by
  refine ⟨b, A, c, 8, by rw [heap_set3 _ _ _ _ _ _ hP]; rfl, ?_, .inr ⟨hl, rfl⟩⟩
  have hsz : (w.setCell ⟨P, 2, none⟩ (.int .i64 8)).heap.size = w.heap.size := by simp [World.setCell]
  rw [hsz]
  exact hR.set3 _ hP
set_option maxHeartbeats 8000000 in
theorem add_any (P : Nat) (l L : List Bool) (len : Int) (A : Option Addr) (n c : Nat) (err : Int) (w : World) (hW : WC w P l) (hC : Code w L len A n c err) :
    Calls Tryz.prog 144 #[.pointer (some ⟨P, 0, none⟩), .agg #[.int .i64 len, .slice A n c], .int .i64 err] w (AddP P w (l ++ L)) := by
  obtain ⟨b, Ab, cb, e, hP, hR, hcase⟩ := hW
  have hPs : P < w.heap.size := (Array.getElem?_eq_some_iff.1 hP).1
  obtain ⟨w0, hw0⟩ : ∃ w0, w.alloc (.cells #[.int .i64 len, .slice A n c] 27) = w0 := ⟨_, rfl⟩
  have hB0 : Below w.heap.size w w0 := hw0 ▸ one_below w _
  have hbox : w0.heap[w.heap.size]? = some (.cells #[.int .i64 len, .slice A n c] 27 (0, 0)) := hw0 ▸ World.alloc_heap_new w _
  have hP0 : w0.heap[P]? = some (.cells #[.int .i64 (b.length : Int), .slice Ab (pack b).length cb, .int .i64 e] 88 (0, 0)) := (hB0.block P hPs).trans hP
  have hR0 : Rd w0 w0.heap.size Ab (pack b) := hR.on hB0
  have k2 : w0.cell? ⟨P, 2, none⟩ = some (.int .i64 e) := (cell_at hP0 _).trans rfl
  have f2 := frz_at hP0 2
  rcases hcase with ⟨hl, rfl, rfl⟩ | ⟨hl, rfl⟩
  · by_cases hL : L.length ≤ 8192
    · have hcc : len = (L.length : Int) ∧ n = (pack L).length ∧ Rd w w.heap.size A (pack L) ∧ err = 0 := by
        rcases hC with ⟨_, a1, a2, a3, a4⟩ | ⟨h, _⟩
        · exact ⟨a1, a2, a3, a4⟩
        · omega
      obtain ⟨rfl, rfl, hRL, rfl⟩ := hcc
      have hRL0 := hRL.on hB0
      have k0 : w0.cell? ⟨P, 0, none⟩ = some (.int .i64 (b.length : Int)) := (cell_at hP0 _).trans rfl
      have k1 : w0.cell? ⟨P, 1, none⟩ = some (.slice Ab (pack b).length cb) := (cell_at hP0 _).trans rfl
      have m0 : w0.cell? ⟨w.heap.size, 0, none⟩ = some (.int .i64 (L.length : Int)) := (cell_at hbox _).trans rfl
      have m1 : w0.cell? ⟨w.heap.size, 1, none⟩ = some (.slice A (pack L).length c) := (cell_at hbox _).trans rfl
      obtain ⟨R, eR, hRe⟩ : ∃ (R : List Bool) (eR : Int), (b.length + L.length ≤ 8192 → R = b ++ L ∧ eR = 0) ∧ (8192 < b.length + L.length → R = [] ∧ eR = 8) := by
        by_cases h : b.length + L.length ≤ 8192
        · exact ⟨b ++ L, 0, fun _ => ⟨rfl, rfl⟩, fun h' => absurd h' (by omega)⟩
        · exact ⟨[], 8, fun h' => absurd h' h, fun _ => ⟨rfl, rfl⟩⟩
      have HJ : Hid (∀ V, Below w0.heap.size w0 V → Calls Tryz.prog 23 #[.agg #[.int .i64 (b.length : Int), .slice Ab (pack b).length cb], .agg #[.int .i64 (L.length : Int), .slice A (pack L).length c]] V (Gave V R eR)) := fun V hV => by
        by_cases h : b.length + L.length ≤ 8192
        · obtain ⟨rfl, rfl⟩ := hRe.1 h
          exact join_l b L _ Ab A cb c h rfl V (hR0.on hV) (hRL0.on hV)
        · obtain ⟨rfl, rfl⟩ := hRe.2 (by omega)
          exact join_l8 b L hl hL Ab A cb c (by omega) V (hR0.on hV) (hRL0.on hV)
      have HFin : Hid ((b.length + L.length ≤ 8192 ∧ R = b ++ L ∧ eR = 0) ∨ (8192 < b.length + L.length ∧ eR = 8)) := by
        by_cases h : b.length + L.length ≤ 8192
        · exact .inl ⟨h, hRe.1 h⟩
        · exact .inr ⟨by omega, (hRe.2 (by omega)).2⟩
      have HB0 := Lib.hid hB0; have HP0 := Lib.hid hP0
      have hPs0 : P < w0.heap.size := Nat.lt_of_lt_of_le hPs hB0.size
      have hlen : (b ++ L).length = b.length + L.length := List.length_append
      have HLn := Lib.hid hlen
      have HPs := Lib.hid hPs; have HPs0 := Lib.hid hPs0
      clear hR hR0 hRL hRL0 hP hP0 hbox hRe hl hL hC hlen
      generalize b.length = bl at *
      generalize (pack b).length = bn at *
      generalize L.length = Ll at *
      generalize (pack L).length = Ln at *
      have HJ' := HJ
      go_enter Tryz.func144, Tryz.ntmps144
      go_wp2_with fail
      go_region_with (go_at_call 23; refine (HJ.out w0.drew (Below.refl _ w0).drew).mono ?_; rintro e w5 ⟨A5, c5, rfl, r5, B5⟩; have hk1 : Hid (Below w0.heap.size w0 w5) := ((Below.refl _ w0).drew).trans B5; have hr5 := Lib.hid r5; have hp5 := (hk1.out.block P HPs0.out).trans HP0.out; have q0 : w5.cell? ⟨P, 0, none⟩ = some (.int .i64 (bl : Int)) := (cell_at hp5 _).trans rfl; have q1 : w5.cell? ⟨P, 1, none⟩ = some (.slice Ab bn cb) := (cell_at hp5 _).trans rfl; have q2 : w5.cell? ⟨P, 2, none⟩ = some (.int .i64 0) := (cell_at hp5 _).trans rfl; have g0 := frz_at hp5 0; have g1 := frz_at hp5 1; have g2 := frz_at hp5 2; have HP5 := Lib.hid hp5; clear B5 r5 hp5)
      all_goals (
        have HFw : Hid (AddP P w (b ++ L) (.returned (.tuple #[])) (((w5.setCell ⟨P, 0, none⟩ (.int .i64 (R.length : Int))).setCell ⟨P, 1, none⟩ (.slice A5 (pack R).length c5)).setCell ⟨P, 2, none⟩ (.int .i64 eR))) :=
          ⟨rfl, wc_store HP5.out hr5.out (by rw [HLn.out]; exact HFin.out), (wb_below (HB0.out.trans (hk1.out.mono HB0.out.size))).trans (((wb_set _ _ _ _).trans (wb_set _ _ _ _)).trans (wb_set _ _ _ _))⟩
        go_end0
        exact HFw.out)
    · have hcc : err = 8 := by
        rcases hC with ⟨h, _⟩ | ⟨_, h⟩
        · omega
        · exact h
      subst hcc
      have HFw : Hid (AddP P w (b ++ L) (.returned (.tuple #[])) (w0.setCell ⟨P, 2, none⟩ (.int .i64 8))) :=
        ⟨rfl, wc_err hP0 hR0 (by rw [List.length_append]; omega), (wb_below hB0).trans (wb_set _ _ _ _)⟩
      clear hR hR0 hP hP0 hbox hC hB0
      generalize b.length = bl at *
      generalize (pack b).length = bn at *
      go_enter Tryz.func144, Tryz.ntmps144
      go_wp2
      go_end0
      exact HFw.out
  · have HFw : Hid (AddP P w (l ++ L) (.returned (.tuple #[])) w0) :=
      ⟨rfl, ⟨b, Ab, cb, 8, hP0, hR0, .inr ⟨by rw [List.length_append]; omega, rfl⟩⟩, wb_below hB0⟩
    clear hR hR0 hP hP0 hbox hC hB0
    generalize b.length = bl at *
    generalize (pack b).length = bn at *
    go_enter Tryz.func144, Tryz.ntmps144
    go_wp2
    go_end0
    exact HFw.out
theorem gam_len40 (n : Nat) (h : n ≤ 1099511627776) : (gam n).length ≤ 8192 := by
  have h2 : (2 : Nat) ^ 41 = 2199023255552 := by decide
  have h1 : lg n < 41 := lg_lt_of n 41 (by omega)
  rw [gam_length]; omega
set_option maxHeartbeats 1000000 in
theorem addNumber_any (P : Nat) (l : List Bool) (k : Nat) (hk : k ≤ 1099511627776) (w : World) (hW : WC w P l) :
    Calls Tryz.prog 141 #[.pointer (some ⟨P, 0, none⟩), .int .i64 (k : Int)] w (AddP P w (l ++ gam k)) := by
  have HG := Lib.hid (gamma_ok k hk (gam k) rfl w)
  have HA : Hid (∀ len A n c V, Below w.heap.size w V → Code V (gam k) len A n c 0 → Calls Tryz.prog 144 #[.pointer (some ⟨P, 0, none⟩), .agg #[.int .i64 len, .slice A n c], .int .i64 0] V (AddP P V (l ++ gam k))) := fun len A n c V hV hc => add_any P l (gam k) len A n c 0 V (hW.on hV) hc
  have hg := gam_len40 k hk
  have HC : Hid (∀ A c V, Rd V V.heap.size A (pack (gam k)) → Code V (gam k) ((gam k).length : Int) A (pack (gam k)).length c 0) := fun A c V h => .inl ⟨hg, rfl, rfl, h, rfl⟩
  have c1 : IntKind.u64.wrap (k : Int) = (k : Int) := u64w _ (by omega) (by omega)
  clear hW hg
  generalize (gam k).length = gl at *
  generalize (pack (gam k)).length = gn at *
  go_enter Tryz.func141, Tryz.ntmps141
  go_wp2_with fail
  refine HG.out.mono ?_
  rintro e w1 ⟨A, c, rfl, r1, b1⟩
  have HB := Lib.hid b1
  have HCo := Lib.hid (HC.out A c w1 r1)
  clear r1 b1
  go_wp2_with fail
  refine (HA.out _ A _ c w1 HB.out HCo.out).mono ?_
  rintro e w2 ⟨rfl, hw, hb⟩
  have HW := Lib.hid hw; have HB2 := Lib.hid ((wb_below HB.out).trans hb)
  clear hw hb
  go_wp2
  go_end0
  exact ⟨rfl, HW.out, HB2.out⟩
end
section
set_option maxRecDepth 100000
set_option linter.unusedVariables false
open Go.RowKit Go.Shelf
def RB (X : World) (Q : Nat) (L : List Bool) (A : Option Addr) (c s : Nat) : Prop :=
  X.heap[Q]? = some (.cells #[.int .i64 (L.length : Int), .slice A (pack L).length c, .int .i64 (s : Int)] 92 (0, 0))
theorem RB.lt {X : World} {Q : Nat} {L : List Bool} {A : Option Addr} {c s : Nat} (h : RB X Q L A c s) : Q < X.heap.size := (Array.getElem?_eq_some_iff.1 h).1
theorem RB.on {w V : World} {Q : Nat} {L : List Bool} {A : Option Addr} {c s : Nat} (h : RB w Q L A c s) (hb : Below w.heap.size w V) : RB V Q L A c s := (hb.block Q h.lt).trans h
theorem rd_low {w w' : World} {Q : Nat} {A : Option Addr} {bs : List Nat} (h : Rd w Q A bs) (hb : WB Q w w') (hQ : Q < w.heap.size) : Rd w' Q A bs := h.below (hb.low (Nat.le_refl _) hQ) (Nat.le_refl _)
def TkP (Q : Nat) (L : List Bool) (A : Option Addr) (c : Nat) (w : World) (o : Option (Nat × Nat)) (e : Ending) (w' : World) : Prop :=
  WB Q w w' ∧ match o with | none => Bad e | some (x, s) => e = .returned (.int .i64 (x : Int)) ∧ RB w' Q L A c s
set_option maxHeartbeats 4000000 in
theorem take_num (L : List Bool) (hL : L.length ≤ 8192) (A : Option Addr) (c Q s : Nat) (hs : s ≤ L.length) (most : Nat) (hm : most ≤ 2097152) (w : World) (hQ : RB w Q L A c s) (hR : Rd w Q A (pack L)) :
    Calls Tryz.prog 146 #[.pointer (some ⟨Q, 0, none⟩), .int .i64 (most : Int)] w (TkP Q L A c w (pnum L s most)) := by
  have hlt := hQ.lt
  have hRw : Rd w w.heap.size A (pack L) := hR.below (Below.refl _ _) (Nat.le_of_lt hlt)
  have HG : Hid (∀ V, Below w.heap.size w V → Calls Tryz.prog 185 #[.agg #[.int .i64 (L.length : Int), .slice A (pack L).length c], .int .i64 (s : Int)] V (ReadP V (gamR L s).1 (gamR L s).2.1 (gamR L s).2.2)) := fun V hV => rgamma_l L hL A c s hs V (hRw.on hV)
  have hbd := thenR_bound L (uR L s)
  have HP : Hid (pnum L s most = if (gamR L s).2.2 = 0 ∧ (gamR L s).1 ≤ most then some ((gamR L s).1, (gamR L s).2.1) else none) := rfl
  have hg : gamR L s = thenR L (uR L s) := rfl
  rw [← hg] at hbd
  generalize gamR L s = g at *
  obtain ⟨n, to, er⟩ := g
  dsimp only at HG HP hbd
  have HCk : Hid (∀ V, Below w.heap.size w V → V.cell? ⟨Q, 0, none⟩ = some (.int .i64 (L.length : Int)) ∧ V.cell? ⟨Q, 1, none⟩ = some (.slice A (pack L).length c) ∧ V.cell? ⟨Q, 2, none⟩ = some (.int .i64 (s : Int))) := fun V hV => by
    have h := hQ.on hV
    exact ⟨(cell_at h _).trans rfl, (cell_at h _).trans rfl, (cell_at h _).trans rfl⟩
  have HQ := Lib.hid hQ
  have hto := hbd.1
  have hn := hbd.2
  clear hQ hR hRw hbd hg hs
  generalize pnum L s most = o at *
  have c1 : IntKind.u64.wrap (most : Int) = (most : Int) := u64w _ (by omega) (by omega)
  have c2 : IntKind.i64.wrap (n : Int) = (n : Int) := IntWalk.i64_in _ (by omega)
  obtain ⟨k0, k1, k2⟩ := HCk.out w (Below.refl _ _)
  by_cases he : er = 0
  · subst he
    by_cases hle : n ≤ most
    · rw [if_pos ⟨rfl, hle⟩] at HP
      have t1 : decide ((n : Int) ≤ (most : Int)) = true := by simp; omega
      have t2 : decide (n ≤ most) = true := by simpa using hle
      clear hle
      go_enter Tryz.func146, Tryz.ntmps146
      go_wp2_with fail
      go_region_held3 (fun w' => w'.cell? ⟨Q, 0, none⟩ = some (.int .i64 (L.length : Int)) ∧ w'.cell? ⟨Q, 1, none⟩ = some (.slice A (pack L).length c) ∧ w'.cell? ⟨Q, 2, none⟩ = some (.int .i64 (s : Int)))
        ((refine HCk.out _ ?_; first | exact hk1.out | exact (Below.refl _ _).drew | exact Below.refl _ _))
        ((go_at_call 185; refine (HG.out w.drew (Below.refl _ _).drew).mono ?_; rintro e w1 ⟨rfl, B1⟩; have hk1 : Hid (Below w.heap.size w w1) := ((Below.refl _ w).drew).trans B1; clear B1))
      have HQ1 : Hid (RB w1 Q L A c s) := HQ.out.on hk1.out
      clear k0 k1 k2
      have j2 : w1.cell? ⟨Q, 2, none⟩ = some (.int .i64 (s : Int)) := (cell_at HQ1.out _).trans rfl
      have f2 := frz_at HQ1.out 2
      go_wp2_with fail
      refine (ion_t _).mono ?_
      rintro e w' ⟨rfl, rfl⟩
      go_wp2_with fail
      refine (insist_t _).mono ?_
      rintro e w' ⟨rfl, rfl⟩
      have HN : Hid (RB (w1.setCell ⟨Q, 2, none⟩ (.int .i64 (to : Int))) Q L A c to) := by
        show _ = _
        rw [heap_set3 _ _ _ _ _ _ HQ1.out]; rfl
      have HWB : Hid (WB Q w (w1.setCell ⟨Q, 2, none⟩ (.int .i64 (to : Int)))) := (wb_below hk1.out).trans (wb_set _ _ _ _)
      clear HQ1
      go_wp2
      go_ret
      exact ⟨HWB.out, by rw [HP.out]; exact ⟨rfl, HN.out⟩⟩
    · rw [if_neg (fun h => hle h.2)] at HP
      have t1 : decide ((n : Int) ≤ (most : Int)) = false := by simp; omega
      have t2 : decide (n ≤ most) = false := by simpa using hle
      clear hle
      go_enter Tryz.func146, Tryz.ntmps146
      go_wp2_with fail
      go_region_held3 (fun w' => w'.cell? ⟨Q, 0, none⟩ = some (.int .i64 (L.length : Int)) ∧ w'.cell? ⟨Q, 1, none⟩ = some (.slice A (pack L).length c) ∧ w'.cell? ⟨Q, 2, none⟩ = some (.int .i64 (s : Int)))
        ((refine HCk.out _ ?_; first | exact hk1.out | exact (Below.refl _ _).drew | exact Below.refl _ _))
        ((go_at_call 185; refine (HG.out w.drew (Below.refl _ _).drew).mono ?_; rintro e w1 ⟨rfl, B1⟩; have hk1 : Hid (Below w.heap.size w w1) := ((Below.refl _ w).drew).trans B1; clear B1))
      clear k0 k1 k2
      go_wp2_with fail
      refine (ion_t _).mono ?_
      rintro e w' ⟨rfl, rfl⟩
      go_wp2_with fail
      refine (insist_f _).mono ?_
      rintro e w' ⟨rfl, rfl⟩
      go_wp2
      exact ⟨rfl, wb_below hk1.out, by rw [HP.out]; rfl⟩
  · rw [if_neg (fun h => he h.1)] at HP
    go_enter Tryz.func146, Tryz.ntmps146
    go_wp2_with fail
    go_region_held3 (fun w' => w'.cell? ⟨Q, 0, none⟩ = some (.int .i64 (L.length : Int)) ∧ w'.cell? ⟨Q, 1, none⟩ = some (.slice A (pack L).length c) ∧ w'.cell? ⟨Q, 2, none⟩ = some (.int .i64 (s : Int)))
      ((refine HCk.out _ ?_; first | exact hk1.out | exact (Below.refl _ _).drew | exact Below.refl _ _))
      ((go_at_call 185; refine (HG.out w.drew (Below.refl _ _).drew).mono ?_; rintro e w1 ⟨rfl, B1⟩; have hk1 : Hid (Below w.heap.size w w1) := ((Below.refl _ w).drew).trans B1; clear B1))
    clear k0 k1 k2
    go_wp2_with fail
    refine (ion_f er he _).mono ?_
    rintro e w' ⟨rfl, rfl⟩
    go_wp2
    exact ⟨rfl, wb_below hk1.out, by rw [HP.out]; rfl⟩
end
section
section
set_option maxRecDepth 100000
set_option linter.unusedVariables false
open Go.Shelf
def sortI_ren : Go.Shelf.Ren := ⟨fun | 5 => 131 | 8 => 170 | 7 => 169 | 19 => 214 | 20 => 215 | 10 => 205 | 11 => 206 | 12 => 207 | 13 => 208 | 14 => 209 | 15 => 210 | 16 => 211 | 17 => 212 | 18 => 213 | 30 => 238 | 31 => 239 | 32 => 240 | 33 => 241 | 34 => 242 | 35 => 243 | 40 => 258 | n => n, fun | 23 => 22 | 25 => 3 | 3 => 3 | 32 => 172 | 22 => 22 | 0 => 0 | 44 => 266 | 46 => 58 | 4 => 4 | 36 => 258 | 35 => 257 | 41 => 263 | 5 => 5 | 9 => 9 | 53 => 291 | 57 => 295 | 63 => 308 | 64 => 309 | n => n, fun n => n⟩
theorem sortI : SlLaysM.n5 Tryz.prog sortI_ren where
  mixed := by kernel_rfl
  f5 := ⟨"slices.Sort[[]int,int]", by decide, Tryz.func131.trans (congrArg some (by kernel_rfl))⟩
  f7 := ⟨"slices.pdqsortOrdered[int]", by decide, Tryz.func169.trans (congrArg some (by kernel_rfl))⟩
  f8 := Tryz.func170.trans (congrArg some (by kernel_rfl))
  f10 := ⟨"slices.insertionSortOrdered[int]", by decide, Tryz.func205.trans (congrArg some (by kernel_rfl))⟩
  f11 := ⟨"slices.heapSortOrdered[int]", by decide, Tryz.func206.trans (congrArg some (by kernel_rfl))⟩
  f12 := ⟨"slices.breakPatternsOrdered[int]", by decide, Tryz.func207.trans (congrArg some (by kernel_rfl))⟩
  f13 := ⟨"slices.choosePivotOrdered[int]", by decide, Tryz.func208.trans (congrArg some (by kernel_rfl))⟩
  f14 := ⟨"slices.reverseRangeOrdered[int]", by decide, Tryz.func209.trans (congrArg some (by kernel_rfl))⟩
  f15 := ⟨"slices.partialInsertionSortOrdered[int]", by decide, Tryz.func210.trans (congrArg some (by kernel_rfl))⟩
  f16 := ⟨"cmp.Less[int]", by decide, Tryz.func211.trans (congrArg some (by kernel_rfl))⟩
  f17 := ⟨"slices.partitionEqualOrdered[int]", by decide, Tryz.func212.trans (congrArg some (by kernel_rfl))⟩
  f18 := ⟨"slices.partitionOrdered[int]", by decide, Tryz.func213.trans (congrArg some (by kernel_rfl))⟩
  f19 := Tryz.func214.trans (congrArg some (by kernel_rfl))
  f20 := Tryz.func215.trans (congrArg some (by kernel_rfl))
  f30 := ⟨"slices.siftDownOrdered[int]", by decide, Tryz.func238.trans (congrArg some (by kernel_rfl))⟩
  f31 := Tryz.func239.trans (congrArg some (by kernel_rfl))
  f32 := Tryz.func240.trans (congrArg some (by kernel_rfl))
  f33 := ⟨"slices.medianAdjacentOrdered[int]", by decide, Tryz.func241.trans (congrArg some (by kernel_rfl))⟩
  f34 := ⟨"slices.medianOrdered[int]", by decide, Tryz.func242.trans (congrArg some (by kernel_rfl))⟩
  f35 := ⟨"cmp.isNaN[int]", by decide, Tryz.func243.trans (congrArg some (by kernel_rfl))⟩
  f40 := ⟨"slices.order2Ordered[int]", by decide, Tryz.func258.trans (congrArg some (by kernel_rfl))⟩
  t0 := Tryz.underlying0
  a0 := Tryz.isAgg0
  z0 := Tryz.sizeOf0
  v0 := Tryz.zeroValue0
  t3 := Tryz.underlying3
  a3 := Tryz.isAgg3
  z3 := Tryz.sizeOf3
  v3 := Tryz.zeroValue3
  t4 := Tryz.underlying4
  a4 := Tryz.isAgg4
  z4 := Tryz.sizeOf4
  v4 := Tryz.zeroValue4
  t5 := Tryz.underlying5
  a5 := Tryz.isAgg5
  z5 := Tryz.sizeOf5
  v5 := Tryz.zeroValue5
  t9 := Tryz.underlying9
  a9 := Tryz.isAgg9
  z9 := Tryz.sizeOf9
  v9 := Tryz.zeroValue9
  t22 := Tryz.underlying22
  a22 := Tryz.isAgg22
  z22 := Tryz.sizeOf22
  v22 := Tryz.zeroValue22
  t23 := Tryz.underlying22
  a23 := Tryz.isAgg22
  z23 := Tryz.sizeOf22
  v23 := Tryz.zeroValue22
  t25 := Tryz.underlying3
  a25 := Tryz.isAgg3
  z25 := Tryz.sizeOf3
  v25 := Tryz.zeroValue3
  t32 := Tryz.underlying172
  a32 := Tryz.isAgg172
  z32 := Tryz.sizeOf172
  v32 := Tryz.zeroValue172
  t35 := Tryz.underlying257
  a35 := Tryz.isAgg257
  z35 := Tryz.sizeOf257
  v35 := Tryz.zeroValue257
  t36 := Tryz.underlying258
  a36 := Tryz.isAgg258
  z36 := Tryz.sizeOf258
  v36 := Tryz.zeroValue258
  t41 := Tryz.underlying263
  a41 := Tryz.isAgg263
  z41 := Tryz.sizeOf263
  v41 := Tryz.zeroValue263
  t44 := Tryz.underlying266
  a44 := Tryz.isAgg266
  z44 := Tryz.sizeOf266
  v44 := Tryz.zeroValue266
  t46 := Tryz.underlying58
  a46 := Tryz.isAgg58
  z46 := Tryz.sizeOf58
  v46 := Tryz.zeroValue58
  t53 := Tryz.underlying291
  a53 := Tryz.isAgg291
  z53 := Tryz.sizeOf291
  v53 := Tryz.zeroValue291
  t57 := Tryz.underlying295
  a57 := Tryz.isAgg295
  z57 := Tryz.sizeOf295
  v57 := Tryz.zeroValue295
  t63 := Tryz.underlying308
  a63 := Tryz.isAgg308
  z63 := Tryz.sizeOf308
  v63 := Tryz.zeroValue308
  t64 := Tryz.underlying309
  a64 := Tryz.isAgg309
  z64 := Tryz.sizeOf309
  v64 := Tryz.zeroValue309
end
section
set_option maxRecDepth 100000
set_option linter.unusedVariables false
open Go.RowKit Go.Shelf
theorem msort_ns (l : List Nat) : (ns l).mergeSort (fun x y => decide (x ≤ y)) = ns (nso l) := by
  have hp := List.mergeSort_perm (ns l) (fun x y : Int => decide (x ≤ y))
  have hs := List.pairwise_mergeSort (le := fun x y : Int => decide (x ≤ y)) (fun a b c h1 h2 => by simp at *; omega) (fun a b => by simp; omega) (ns l)
  generalize (ns l).mergeSort (fun x y => decide (x ≤ y)) = r at *
  have h0 : ∀ x ∈ r, 0 ≤ x := fun x hx => by
    have := hp.subset hx
    simp only [ns, List.mem_map] at this
    obtain ⟨y, _, rfl⟩ := this; omega
  have e1 : r = ns (r.map Int.toNat) := by
    unfold ns; rw [List.map_map]
    conv => lhs; rw [← List.map_id r]
    exact List.map_congr_left fun x hx => by have := h0 x hx; simp; omega
  have hpn : (r.map Int.toNat).Perm l := by have := hp.map Int.toNat; rwa [ns_nat] at this
  have hsn : (r.map Int.toNat).Pairwise (· ≤ ·) := List.pairwise_map.2 (hs.imp fun {a b} h => by simp at h; omega)
  rw [e1, nso_uniq hpn hsn]
theorem sort_own (l : List Nat) (n : Nat) (hn : l.length = n) (hn2 : n ≤ 1000000) (base : Nat) (v : Value) (w : World) (h : w.ownsRow base 3 1 v n (zc (ns l))) (hB : base ≤ w.heap.size) :
    Calls Tryz.prog 131 #[v] w fun e w' => e = .returned (.tuple #[]) ∧ w'.ownsRow base 3 1 v n (zc (ns (nso l))) ∧ Below base w w' := by
  have h' := h
  rcases h.2 with ⟨rfl, h0⟩ | ⟨g, cap, cur, rfl, hb, hg, h1, h2, h3, h4⟩
  · subst h0
    have : l = [] := List.eq_nil_of_length_eq_zero hn
    subst this
    exact (AnyM.slices_Sort_int_none sortI none 0 w).mono fun e w' ⟨he, hw⟩ => by
      subst hw
      exact ⟨he, h, Below.refl _ _⟩
  · have hl : (ns l).length = n := by rw [ns_length, hn]
    have hgs : g < w.heap.size := (Array.getElem?_eq_some_iff.1 hg).1
    have hH := holds_of_blockI (ss := ns l) hg (by rw [hl]; rw [Nat.mul_one] at h4; exact h4)
    have hcon := AnyM.slices_Sort_int sortI g 0 cap (ns l) w hH hgs (by rw [hl]; omega)
    rw [hl, msort_ns] at hcon
    refine hcon.mono ?_
    rintro e w' ⟨he, m, os, rfl⟩
    refine ⟨he, ?_, ?_⟩
    · have hl2 : (ns (nso l)).length = (ns l).length := by rw [ns_length, ns_length, (nso_perm l).length_eq]
      have := ownsRow_sortedI (w := w) (n := m) (os := os) (ss := ns l) (ts := ns (nso l)) hl2 hb hg (by rw [hl]; exact h1) h2 h3
      rw [hl] at this
      exact this
    · have hgr := grownBy_sortedI (w := w) (g := g) (n := m) (os := os) (ns (nso l)).toArray
      have e : (Value.slice (some ⟨g, 0, none⟩) n cap).ownBlock = some g := rfl
      rw [← e] at hgr
      exact grown_low hgr h' hB
end
end
section
set_option maxRecDepth 100000
set_option linter.unusedVariables false
open Go.RowKit Go.Shelf
theorem below_drewN {B : Nat} {w X : World} (h : Below B w X) (k : Nat) : Below B w (X.drewN k) := ⟨h.os, h.tape, h.output, h.size, h.block⟩
def ScRel (l : List Nat) (w : World) (p : Value) (wr : World) : Prop :=
  ∃ k : Nat, 1 ≤ k ∧ k ≤ l.length ∧ p = .int .i64 (k : Int) ∧ (∀ i, i < k → l[i]?.getD 0 = l[0]?.getD 0 + i) ∧ Below w.heap.size w wr
set_option maxHeartbeats 2000000 in
theorem succ_in (l : List Nat) (n : Nat) (hn : l.length = n) (h1 : 1 ≤ n) (h300 : n ≤ 300) (hle : ∀ x ∈ l, x ≤ 1048576) (A : Option Addr) (c : Nat) (w : World) (h : RdV w w.heap.size A (zc (ns l))) :
    Calls Tryz.prog 248 #[.slice A n c] w fun e w' => e = .returned (.int .i64 (m1 l : Int)) ∧ Below w.heap.size w w' := by
  obtain ⟨b, off, rfl, hb, hc0⟩ := h.at_ (ns_get l 0 (by omega))
  have hx0 := hle _ (at_mem l 0 (by omega))
  rw [Nat.add_zero] at hc0
  have HX := Lib.hid h; have HN := Lib.hid hn; have HLe := Lib.hid hle
  clear h hn hle
  go_enter Tryz.func248, Tryz.ntmps248
  go_wp2
  go_loopw [3] (fun p wr => ScRel l w p wr) (fun p _ => n - (intOf p).toNat)
  case atStart => exact ⟨1, Nat.le_refl _, by rw [HN.out]; exact h1, rfl, (fun (i : Nat) (hi : i < 1) => by rw [show i = 0 by omega]; rfl), Below.refl _ _⟩
  case round =>
    obtain ⟨k, hk1, hk, rfl, hall, hbel⟩ := hrel
    rw [HN.out] at hk
    have k0 := (hbel.cell (p := ⟨b, off, none⟩) hb).trans hc0
    by_cases hlt : k < n
    · have hin : k < l.length := by rw [HN.out]; exact hlt
      obtain ⟨b2, off2, hA2, hb2, hc1⟩ := (HX.out.on hbel).at_ (ns_get l k hin)
      simp only [Option.some.injEq, Addr.mk.injEq, and_true] at hA2
      obtain ⟨rfl, rfl⟩ := hA2
      have hx1 := HLe.out _ (at_mem l k hin)
      have HU := fun he => m1_uniq l k hk1 (by rw [HN.out]; exact hk) hall he
      have HAl := Lib.hid hall; have HB := Lib.hid hbel
      clear hbel hall
      have t1 : decide ((k : Int) < (n : Int)) = true := by simp; omega
      have t2 : decide (k < n) = true := by simpa using hlt
      have t3 : (0 : Int) ≤ (k : Int) := by omega
      have t4 : (k : Int) < (n : Int) := by omega
      have t5 : (0 : Int) < (n : Int) := by omega
      by_cases he : l[k]?.getD 0 = l[0]?.getD 0 + k
      · have HS : Hid (∀ i, i < k + 1 → l[i]?.getD 0 = l[0]?.getD 0 + i) := fun i hi => by
          by_cases e : i = k
          · subst e; exact he
          · exact HAl.out i (by omega)
        clear HU HAl
        generalize l[k]?.getD 0 = x at *
        generalize hy : l[0]?.getD 0 = y at *
        have HY := Lib.hid hy; clear hy
        have tw : IntKind.i64.wrap ((y : Int) + (k : Int)) = (y : Int) + (k : Int) := IntWalk.i64_in _ (by omega)
        have te : ((x : Int) == (y : Int) + (k : Int)) = true := by simp; omega
        clear he
        go_wp2
        go_quiet (fail)
        go_wp2
        go_roundw
        case rel => exact ⟨k + 1, by omega, by rw [HN.out]; omega, by go_num, by rw [HY.out]; exact HS.out, below_drewN HB.out _⟩
        case measure => simp [intOf]; omega
      · have hm := HU (fun _ => he)
        have HM := Lib.hid hm
        clear HU hm HAl
        generalize l[k]?.getD 0 = x at *
        generalize hy : l[0]?.getD 0 = y at *
        have HY := Lib.hid hy; clear hy
        have tw : IntKind.i64.wrap ((y : Int) + (k : Int)) = (y : Int) + (k : Int) := IntWalk.i64_in _ (by omega)
        have te : ((x : Int) == (y : Int) + (k : Int)) = false := by simp; omega
        clear he
        go_wp2
        go_quiet (fail)
        go_wp2
        go_ret
        exact ⟨by rw [HM.out]; rfl, below_drewN HB.out _⟩
    · have hm := m1_uniq l k hk1 (by rw [HN.out]; exact hk) hall (fun h => absurd h (by rw [HN.out]; omega))
      obtain rfl : k = n := by omega
      have HM := Lib.hid hm
      have HB := Lib.hid hbel
      clear hm hall hbel
      have t1 : decide ((k : Int) < (k : Int)) = false := by simp
      have t2 : decide (k < k) = false := by simp
      go_wp2
      go_quiet (fail)
      go_wp2
      go_ret
      exact ⟨by rw [HM.out]; rfl, below_drewN HB.out _⟩
def TwRel (l : List Nat) (w : World) (p : Value) (wr : World) : Prop :=
  ∃ i : Nat, 1 ≤ i ∧ p = .int .i64 (i : Int) ∧ (∀ j, j + 1 < i → j + 1 < l.length → l[j + 1]?.getD 0 ≠ l[j]?.getD 0) ∧ Below w.heap.size w wr
set_option maxHeartbeats 2000000 in
theorem twice_in (l : List Nat) (n : Nat) (hn : l.length = n) (hn2 : n ≤ 1000000) (A : Option Addr) (c : Nat) (w : World) (h : RdV w w.heap.size A (zc (ns l))) :
    Calls Tryz.prog 234 #[.slice A n c] w fun e w' => e = .returned (.bool (tw l)) ∧ Below w.heap.size w w' := by
  have HX := Lib.hid h; have HN := Lib.hid hn
  clear h hn
  go_enter Tryz.func234, Tryz.ntmps234
  go_wp2
  go_loopw [3] (fun p wr => TwRel l w p wr) (fun p _ => n - (intOf p).toNat)
  case atStart => exact ⟨1, Nat.le_refl _, rfl, fun j h => by omega, Below.refl _ _⟩
  case round =>
    obtain ⟨i, hi1, rfl, hall, hbel⟩ := hrel
    by_cases hlt : i < n
    · have hin : i < l.length := by rw [HN.out]; exact hlt
      obtain ⟨b, off, rfl, hb, hc1⟩ := (HX.out.on hbel).at_ (ns_get l i hin)
      obtain ⟨b2, off2, hA2, hb2, hc0⟩ := (HX.out.on hbel).at_ (ns_get l (i - 1) (by omega))
      simp only [Option.some.injEq, Addr.mk.injEq, and_true] at hA2
      obtain ⟨rfl, rfl⟩ := hA2
      have HTw := Lib.hid (tw_at l)
      have HAl := Lib.hid hall; have HB := Lib.hid hbel
      clear hbel hall
      have t1 : decide ((i : Int) < (n : Int)) = true := by simp; omega
      have t2 : decide (i < n) = true := by simpa using hlt
      have t3 : (0 : Int) ≤ (i : Int) := by omega
      have t4 : (i : Int) < (n : Int) := by omega
      have t5 : (0 : Int) ≤ (i : Int) - 1 := by omega
      have t6 : (i : Int) - 1 < (n : Int) := by omega
      have t7 : ((i : Int) - 1).toNat = i - 1 := by omega
      have t8 : (1 : Int) ≤ (i : Int) := by omega
      have t9 : (i : Int) < (n : Int) + 1 := by omega
      have t10 : (i : Int) ≤ (n : Int) := by omega
      have t11 : i - 1 < n := by omega
      have ts : IntKind.i64.wrap ((i : Int) - 1) = (i : Int) - 1 := IntWalk.i64_in _ (by omega)
      by_cases he : l[i]?.getD 0 = l[i - 1]?.getD 0
      · have HT : Hid (tw l = true) := HTw.out.2 ⟨i - 1, by rw [HN.out]; omega, by rw [show i - 1 + 1 = i by omega]; exact he⟩
        clear HTw HAl
        generalize l[i]?.getD 0 = x at *
        generalize l[i - 1]?.getD 0 = y at *
        have te : ((x : Int) == (y : Int)) = true := by simp; omega
        clear he
        go_wp2
        go_quiet (fail)
        go_wp2
        go_ret
        exact ⟨by rw [HT.out]; rfl, below_drewN HB.out _⟩
      · have HS : Hid (∀ j, j + 1 < i + 1 → j + 1 < l.length → l[j + 1]?.getD 0 ≠ l[j]?.getD 0) := fun j hj hl => by
          by_cases e : j + 1 = i
          · have : j = i - 1 := by omega
            subst this
            rw [show i - 1 + 1 = i by omega]; exact he
          · exact HAl.out j (by omega) hl
        clear HTw HAl
        generalize l[i]?.getD 0 = x at *
        generalize l[i - 1]?.getD 0 = y at *
        have te : ((x : Int) == (y : Int)) = false := by simp; omega
        clear he
        go_wp2
        go_quiet (fail)
        go_wp2
        go_roundw
        case rel => exact ⟨i + 1, by omega, by go_num, HS.out, below_drewN HB.out _⟩
        case measure => simp [intOf]; omega
    · have HT : Hid (tw l = false) := by
        show _ = _
        cases hh : tw l with
        | false => rfl
        | true =>
          obtain ⟨j, h1, h2⟩ := (tw_at l).1 hh
          exact absurd h2 (hall j (by rw [HN.out] at h1; omega) h1)
      have HB := Lib.hid hbel
      clear hall hbel
      have t1 : decide ((i : Int) < (n : Int)) = false := by simp; omega
      have t2 : decide (i < n) = false := by simp; omega
      go_wp2
      go_ret
      exact ⟨by rw [HT.out]; rfl, HB.out⟩
end
section
section
set_option maxRecDepth 100000
set_option linter.unusedVariables false
open Go.RowKit Go.Shelf
abbrev Ri := Int × Int
def rcs (r : List Ri) : List Value := r.flatMap fun p => [.int .i64 p.1, .int .i64 p.2]
theorem rcs_cons (p : Ri) (r : List Ri) : rcs (p :: r) = .int .i64 p.1 :: .int .i64 p.2 :: rcs r := rfl
theorem rcs_append (a b : List Ri) : rcs (a ++ b) = rcs a ++ rcs b := by simp [rcs]
theorem rcs_at : ∀ (r : List Ri) (i : Nat), i < r.length → (rcs r)[i * 2]? = some (.int .i64 (r[i]?.getD (0, 0)).1) ∧ (rcs r)[i * 2 + 1]? = some (.int .i64 (r[i]?.getD (0, 0)).2)
  | [], i, h => by simp at h
  | p :: r, 0, h => by rw [rcs_cons]; simp
  | p :: r, i + 1, h => by
    have := rcs_at r i (by simpa using h)
    rw [rcs_cons, show (i + 1) * 2 = i * 2 + 1 + 1 by omega]
    simpa using this
theorem drop_atP (xs : List Ri) (i : Nat) (h : i < xs.length) : xs.drop i = xs[i]?.getD (0, 0) :: xs.drop (i + 1) := by
  rw [List.drop_eq_getElem_cons h, List.getElem?_eq_getElem h]; rfl
def eachP (f : Int → Ri → Int) (nx : Ri → Int) : Int → List Ri → Int
  | _, [] => 0
  | v, x :: t => if f v x = 0 then eachP f nx (nx x) t else f v x
theorem eachP_cons (f : Int → Ri → Int) (nx : Ri → Int) (v : Int) (x : Ri) (t : List Ri) : eachP f nx v (x :: t) = if f v x = 0 then eachP f nx (nx x) t else f v x := rfl
def EbxP (f : Int → Ri → Int) (nx : Ri → Int) (B : Nat) (v0 : Int) (xs : List Ri) (w : World) (p : Value) (wr : World) : Prop :=
  ∃ (i : Nat) (v : Int), i ≤ xs.length ∧ p = .int .i64 (i : Int) ∧ eachP f nx v0 xs = eachP f nx v (xs.drop i) ∧ wr.heap[B]? = some (.cells #[.int .i64 v] 3 (0, 0)) ∧ Below B w wr
set_option maxHeartbeats 1000000 in
theorem each_run (g : Nat) (B : Nat) (cb : Array Value) (f : Int → Ri → Int) (nx : Ri → Int) (xs : List Ri) (n : Nat) (hn : xs.length = n) (hn2 : n ≤ 9223372036854775807) (A : Option Addr) (c : Nat) (v0 : Int) (w : World) (h : RdV w B A (rcs xs)) (hb : w.heap[B]? = some (.cells #[.int .i64 v0] 3 (0, 0)))
    (eg : ∀ args w, (callFunc g args).run Tryz.prog w = .ok (.enter g args) w)
    (hg : ∀ (x : Ri) (v : Int) (V : World), V.heap[B]? = some (.cells #[.int .i64 v] 3 (0, 0)) → Calls Tryz.prog g (#[.agg #[.int .i64 x.1, .int .i64 x.2]] ++ cb) V fun e w' => e = .returned (.int .i64 (f v x)) ∧ Below B V w' ∧ (f v x = 0 → w'.heap[B]? = some (.cells #[.int .i64 (nx x)] 3 (0, 0)))) :
    Calls Tryz.prog 253 #[.slice A n c, .func (.func g) #[] cb] w fun e w' => e = .returned (.int .i64 (eachP f nx v0 xs)) ∧ Below B w w' := by
  have hBw : B < w.heap.size := (Array.getElem?_eq_some_iff.1 hb).1
  have HR := Lib.hid h; clear h
  have HN := Lib.hid hn; clear hn
  have HG := Lib.hid hg; clear hg
  have HB0 := Lib.hid hb; clear hb
  go_enter Tryz.func253, Tryz.ntmps253
  go_wp2
  go_loopw [10] (fun p wr => EbxP f nx B v0 xs w p wr) (fun p _ => n - (intOf p).toNat)
  case atStart => exact ⟨0, v0, Nat.zero_le _, rfl, rfl, HB0.out, Below.refl _ _⟩
  case round =>
    obtain ⟨i, v, hi, rfl, ht, hbox, hbel⟩ := hrel
    rw [HN.out] at hi
    by_cases hlt : i < n
    · have hin : i < xs.length := by rw [HN.out]; exact hlt
      have hR := HR.out.below hbel (Nat.le_refl _)
      obtain ⟨r0, r1⟩ := rcs_at xs i hin
      obtain ⟨b, off, rfl, hb, k0⟩ := hR.at_ r0
      obtain ⟨b2, off2, hA2, hb2, k1⟩ := hR.at_ r1
      simp only [Option.some.injEq, Addr.mk.injEq, and_true] at hA2
      obtain ⟨rfl, rfl⟩ := hA2
      rw [← Nat.add_assoc] at k1
      rw [drop_atP xs i hin, eachP_cons] at ht
      clear r0 r1 hR
      generalize xs[i]?.getD (0, 0) = x at *
      have hbox2 : (wr.alloc (.cells #[.int .i64 x.1, .int .i64 x.2] 159)).heap[B]? = some (.cells #[.int .i64 v] 3 (0, 0)) := (Below.heap_alloc _ _ _ (by have := hbel.size; omega)).trans hbox
      have HC := Lib.hid (HG.out x v _ hbox2)
      have HB : Hid (Below B w (wr.alloc (.cells #[.int .i64 x.1, .int .i64 x.2] 159))) := hbel.alloc (by have := hbel.size; omega) _
      clear hbel hbox hbox2
      obtain ⟨x1, x2⟩ := x
      simp only at k0 k1 HC HB
      by_cases hf : f v (x1, x2) = 0
      · rw [if_pos hf] at ht
        have HT := Lib.hid ht
        rw [hf] at HC
        clear hf ht
        go_wp2_with fail
        refine HC.out.mono ?_
        rintro e w1 ⟨rfl, b1, k1⟩
        have HB1 := Lib.hid b1; have HK1 := Lib.hid (k1 (by simp)); clear b1 k1
        go_wp2
        go_roundw
        case rel => exact ⟨i + 1, nx (x1, x2), by rw [HN.out]; omega, by go_num, HT.out, HK1.out, HB.out.trans HB1.out⟩
        case measure => simp [intOf]; omega
      · rw [if_neg hf] at ht
        have HE := Lib.hid ht
        have t0 : (f v (x1, x2) == 0) = false := by simpa using hf
        clear ht
        generalize f v (x1, x2) = y at *
        go_wp2_with fail
        refine HC.out.mono ?_
        rintro e w1 ⟨rfl, b1, -⟩
        have HB1 := Lib.hid b1; clear b1
        go_wp2
        go_ret
        exact ⟨ret_i64 HE.out.symm, HB.out.trans HB1.out⟩
    · have HT : Hid (eachP f nx v0 xs = 0) := by
        show _ = _
        rw [ht, List.drop_of_length_le (by rw [HN.out]; omega)]; rfl
      clear ht hbox
      have HB := Lib.hid hbel; clear hbel
      go_wp2
      go_ret
      exact ⟨ret_i64 HT.out.symm, HB.out⟩
end
section
set_option maxRecDepth 100000
set_option linter.unusedVariables false
open Go.RowKit Go.Shelf
theorem range4 (e : Int) (a b c d : Bool) (r : Int) (hr : rgE e [a, b, c, d] = r) (w : World) (B : Nat) (hB : w.heap.size = B) :
    Calls Tryz.prog 48 #[.int .i64 e, .slice (some ⟨B, 0, none⟩) 4 4] (w.alloc (.cells #[.bool a, .bool b, .bool c, .bool d] 4)) fun x w' => x = .returned (.int .i64 r) ∧ Below w.heap.size w w' :=
  hB ▸ range_on e [a, b, c, d] 4 rfl (by decide) r hr w
def rk1 (v : Int) (p : Ri) : Int := if p.1 < 0 ∨ 1048576 < p.1 ∨ p.2 < 1 ∨ 300 < p.2 ∨ 1048576 < p.1 + p.2 - 1 then 3 else if p.1 ≤ v then 4 else 0
def rkn (p : Ri) : Int := IntKind.i64.wrap (p.1 + p.2)
theorem rk_each : ∀ (xs : List Ri) (v : Int), eachP rk1 rkn v xs = rk v xs
  | [], _ => rfl
  | p :: t, v => by
    rw [eachP_cons]
    unfold rk1 rk
    by_cases h1 : p.1 < 0 ∨ 1048576 < p.1 ∨ p.2 < 1 ∨ 300 < p.2 ∨ 1048576 < p.1 + p.2 - 1
    · rw [if_pos h1, if_pos h1, if_neg (by omega)]
    · rw [if_neg h1, if_neg h1]
      by_cases h2 : p.1 ≤ v
      · rw [if_pos h2, if_pos h2, if_neg (by omega)]
      · rw [if_neg h2, if_neg h2, if_pos rfl]
        have : rkn p = p.1 + p.2 := IntWalk.i64_in _ (by omega)
        rw [this]
        exact rk_each t _
theorem rk1_rg (v : Int) (p : Ri) : rgE 0 [okN p.1, decide (1 ≤ p.2), decide (p.2 ≤ 300), okN (IntKind.i64.wrap (rkn p - 1))] = if p.1 < 0 ∨ 1048576 < p.1 ∨ p.2 < 1 ∨ 300 < p.2 ∨ 1048576 < p.1 + p.2 - 1 then 3 else 0 := by
  have key : ∀ b : Bool, rgE 0 [okN p.1, decide (1 ≤ p.2), decide (p.2 ≤ 300), b] = if (p.1 < 0 ∨ 1048576 < p.1 ∨ p.2 < 1 ∨ 300 < p.2) ∨ b = false then 3 else 0 := by
    intro b
    unfold rgE okN
    have : ((0 : Int) = 0 ∧ [decide (0 ≤ p.1 ∧ p.1 ≤ 1048576), decide (1 ≤ p.2), decide (p.2 ≤ 300), b].contains false = true) ↔ ((p.1 < 0 ∨ 1048576 < p.1 ∨ p.2 < 1 ∨ 300 < p.2) ∨ b = false) := by
      cases b <;> simp <;> omega
    by_cases h : ((p.1 < 0 ∨ 1048576 < p.1 ∨ p.2 < 1 ∨ 300 < p.2) ∨ b = false)
    · rw [if_pos h, if_pos (this.2 h)]
    · rw [if_neg h, if_neg (fun q => h (this.1 q))]
  rw [key]
  by_cases h0 : p.1 < 0 ∨ 1048576 < p.1 ∨ p.2 < 1 ∨ 300 < p.2
  · rw [if_pos (.inl h0), if_pos (by omega)]
  · have e1 : rkn p = p.1 + p.2 := IntWalk.i64_in _ (by omega)
    have e2 : IntKind.i64.wrap (rkn p - 1) = p.1 + p.2 - 1 := by rw [e1]; exact IntWalk.i64_in _ (by omega)
    rw [e2]
    by_cases h1 : 1048576 < p.1 + p.2 - 1
    · have : okN (p.1 + p.2 - 1) = false := by unfold okN; simp; omega
      rw [if_pos (.inr this), if_pos (by omega)]
    · have : okN (p.1 + p.2 - 1) = true := by unfold okN; simp; omega
      rw [this]
      have n1 : ¬ ((p.1 < 0 ∨ 1048576 < p.1 ∨ p.2 < 1 ∨ 300 < p.2) ∨ true = false) := by simp; omega
      have n2 : ¬ (p.1 < 0 ∨ 1048576 < p.1 ∨ p.2 < 1 ∨ 300 < p.2 ∨ 1048576 < p.1 + p.2 - 1) := by omega
      simp only [if_neg n1, if_neg n2]
theorem run_at {w V : World} {a b : Value} (h : Below (w.heap.size + 1) (w.alloc (.cells #[a, b] 159)) V) : V.cell? ⟨w.heap.size, 0, none⟩ = some a ∧ V.cell? ⟨w.heap.size, 1, none⟩ = some b := by
  have e := (h.block w.heap.size (by omega)).trans (World.alloc_heap_new w (.cells #[a, b] 159))
  exact ⟨(blk_cells e).1, (blk_cells e).2.1⟩
set_option maxHeartbeats 1000000 in
theorem runOne (x : Ri) (v : Int) (B : Nat) (w : World) (hb : w.heap[B]? = some (.cells #[.int .i64 v] 3 (0, 0))) :
    Calls Tryz.prog 254 (#[.agg #[.int .i64 x.1, .int .i64 x.2]] ++ #[.pointer (some ⟨B, 0, none⟩)]) w fun e w' => e = .returned (.int .i64 (rk1 v x)) ∧ Below B w w' ∧ (rk1 v x = 0 → w'.heap[B]? = some (.cells #[.int .i64 (rkn x)] 3 (0, 0))) := by
  show Calls Tryz.prog 254 #[.agg #[.int .i64 x.1, .int .i64 x.2], .pointer (some ⟨B, 0, none⟩)] w _
  have hBw : B < w.heap.size := (Array.getElem?_eq_some_iff.1 hb).1
  have hrg := rk1_rg v x
  have hk : rk1 v x = if (if x.1 < 0 ∨ 1048576 < x.1 ∨ x.2 < 1 ∨ 300 < x.2 ∨ 1048576 < x.1 + x.2 - 1 then (3 : Int) else 0) = 3 then 3 else if x.1 ≤ v then 4 else 0 := by
    unfold rk1
    by_cases h : x.1 < 0 ∨ 1048576 < x.1 ∨ x.2 < 1 ∨ 300 < x.2 ∨ 1048576 < x.1 + x.2 - 1
    · rw [if_pos h, if_pos h, if_pos rfl]
    · simp only [if_neg h]; simp
  have h03 : (if x.1 < 0 ∨ 1048576 < x.1 ∨ x.2 < 1 ∨ 300 < x.2 ∨ 1048576 < x.1 + x.2 - 1 then (3 : Int) else 0) = 3 ∨ (if x.1 < 0 ∨ 1048576 < x.1 ∨ x.2 < 1 ∨ 300 < x.2 ∨ 1048576 < x.1 + x.2 - 1 then (3 : Int) else 0) = 0 := by split <;> simp
  generalize (if x.1 < 0 ∨ 1048576 < x.1 ∨ x.2 < 1 ∨ 300 < x.2 ∨ 1048576 < x.1 + x.2 - 1 then (3 : Int) else 0) = rr at *
  rw [hk]
  clear hk
  obtain ⟨f, m⟩ := x
  simp only at *
  have hQ : (rr = 3 → (if rr = 3 then (3 : Int) else if f ≤ v then 4 else 0) = 3) ∧ (rr = 0 → f ≤ v → (if rr = 3 then (3 : Int) else if f ≤ v then 4 else 0) = 4) ∧ (rr = 0 → ¬ f ≤ v → (if rr = 3 then (3 : Int) else if f ≤ v then 4 else 0) = 0) := by
    refine ⟨fun h => by rw [if_pos h], fun h h2 => by rw [if_neg (by omega), if_pos h2], fun h h2 => by rw [if_neg (by omega), if_neg h2]⟩
  generalize (if rr = 3 then (3 : Int) else if f ≤ v then 4 else 0) = R0 at *
  have HQ := Lib.hid hQ; clear hQ
  have tw1 : IntKind.i64.wrap (f + m) = rkn (f, m) := rfl
  generalize rkn (f, m) = u at *
  generalize tw2 : IntKind.i64.wrap (u - 1) = u2 at *
  have HN1 := Lib.hid (node_any f)
  have HN2 := Lib.hid (node_any u2)
  generalize okN f = o1 at *
  generalize okN u2 = o2 at *
  have HR := Lib.hid (range4 0 o1 (decide (1 ≤ m)) (decide (m ≤ 300)) o2 rr hrg)
  have HBox := Lib.hid hb
  clear hrg hb
  go_enter Tryz.func254, Tryz.ntmps254
  go_wp2_with fail
  generalize hV : w.alloc (.cells #[.int .i64 f, .int .i64 m] 159) = V0
  have HV : Hid (Below w.heap.size w V0) := hV ▸ one_below _ _
  have HK : Hid (∀ w' : World, Below V0.heap.size V0 w' → w'.cell? ⟨w.heap.size, 0, none⟩ = some (.int .i64 f) ∧ w'.cell? ⟨w.heap.size, 1, none⟩ = some (.int .i64 m)) := by
    subst hV
    exact fun w' h => run_at (by rwa [World.size_alloc] at h)
  clear hV
  go_region_held3 (fun w' => w'.cell? ⟨w.heap.size, 0, none⟩ = some (.int .i64 f) ∧ w'.cell? ⟨w.heap.size, 1, none⟩ = some (.int .i64 m))
    ((refine HK.out _ ?_; first | exact hk2.out | exact hk1.out.trans ((one_below _ _).mono hk1.out.size) | exact hk1.out | exact (Below.refl _ _).drew))
    (first
      | (go_at_call 48; have hx := hk1.out; refine (HR.out w1 _ rfl).mono ?_; rintro e w2 ⟨rfl, B2⟩; have hk2 : Hid (Below V0.heap.size V0 w2) := hx.trans (B2.mono hx.size); clear B2 hx)
      | (go_at_call 49; have hx := hk1.out; refine (HN2.out w1).mono ?_; rintro e _ ⟨rfl, rfl⟩; clear hx)
      | (go_at_call 49; refine (HN1.out V0.drew).mono ?_; rintro e w1 ⟨rfl, hw1⟩; have hk1 : Hid (Below V0.heap.size V0 w1) := hw1 ▸ (Below.refl _ V0).drew; clear hw1))
  obtain ⟨p1, q1⟩ := HK.out w2 hk2.out
  have HB2 : Hid (Below w.heap.size w w2) := HV.out.trans (hk2.out.mono HV.out.size)
  have hb2 := (HB2.out.block B hBw).trans HBox.out
  have c2 : w2.cell? ⟨B, 0, none⟩ = some (.int .i64 v) := (cell_at hb2 _).trans rfl
  have f2 := frz_at hb2 0
  have HX : Hid ((w2.setCell ⟨B, 0, none⟩ (.int .i64 u)).heap[B]? = some (.cells #[.int .i64 u] 3 (0, 0))) := by
    show _ = _
    rw [heap_set_same _ _ _ _ _ _ hb2]; simp
  clear HK hk1 hk2 hb2 HN1 HN2 HR
  rcases h03 with rfl | rfl
  · have HE := Lib.hid (HQ.out.1 rfl)
    clear HQ
    go_wp2
    go_ret
    exact ⟨ret_i64 HE.out.symm, HB2.out.mono (by omega), fun h => by have := HE.out; omega⟩
  · by_cases hv : f ≤ v
    · have HE := Lib.hid (HQ.out.2.1 rfl hv)
      have t0 : decide (f ≤ v) = true := by simpa using hv
      clear hv HQ
      go_wp2
      go_ret
      exact ⟨ret_i64 HE.out.symm, HB2.out.mono (by omega), fun h => by have := HE.out; omega⟩
    · have HE := Lib.hid (HQ.out.2.2 rfl (by omega))
      have t0 : decide (f ≤ v) = false := by simpa using hv
      clear hv HQ
      go_wp2
      go_ret
      exact ⟨ret_i64 HE.out.symm, (HB2.out.mono (show B ≤ w.heap.size by omega)).setCell (p := ⟨B, 0, none⟩) (Nat.le_refl _) _, fun _ => HX.out⟩
theorem entersRun1 : ∀ args w, (callFunc 254 args).run Tryz.prog w = .ok (.enter 254 args) w := enters_of Tryz.func254 (by kernel_rfl) rfl
set_option maxHeartbeats 400000 in
theorem rnck_any (xs : List Ri) (n : Nat) (hn : xs.length = n) (hn2 : n ≤ 9223372036854775807) (A : Option Addr) (c : Nat) (w : World) (h : RdV w w.heap.size A (rcs xs)) :
    Calls Tryz.prog 232 #[.slice A n c] w fun e w' => e = .returned (.int .i64 (rkchk xs)) ∧ Below w.heap.size w w' := by
  unfold rkchk
  rw [hn]
  by_cases h300 : 300 < n
  · rw [if_pos h300]
    go_enter Tryz.func232, Tryz.ntmps232
    go_wp2
    go_ret
    exact ⟨rfl, Below.refl _ _⟩
  · rw [if_neg h300]
    have HC : Hid (∀ V, Below w.heap.size w V → V.heap[w.heap.size]? = some (.cells #[.int .i64 (-1)] 3 (0, 0)) → Calls Tryz.prog 253 #[.slice A n c, .func (.func 254) #[] #[.pointer (some ⟨w.heap.size, 0, none⟩)]] V fun e w' => e = .returned (.int .i64 (rk (-1) xs)) ∧ Below w.heap.size V w') := by
      intro V hV hb
      rw [← rk_each]
      exact each_run 254 w.heap.size #[.pointer (some ⟨w.heap.size, 0, none⟩)] rk1 rkn xs n hn hn2 A c (-1) V (h.below hV (Nat.le_refl _)) hb entersRun1 (fun x v V hV => runOne x v w.heap.size V hV)
    generalize rk (-1) xs = r at *
    have hnew := World.alloc_heap_new w (.cells #[.int .i64 (-1)] 3)
    have HA : Hid (Below w.heap.size w (w.alloc (.cells #[.int .i64 (-1)] 3))) := one_below w _
    have HNw := Lib.hid hnew
    clear hn h hnew
    go_enter Tryz.func232, Tryz.ntmps232
    go_wp2_with fail
    refine (HC.out _ HA.out HNw.out).mono ?_
    rintro e w1 ⟨rfl, B1⟩
    have HB1 := Lib.hid (HA.out.trans B1); clear B1
    go_wp2
    go_ret
    exact ⟨rfl, HB1.out⟩
end
end
section
set_option linter.unusedVariables false
open Go.RowKit Go.Shelf
attribute [local go_sem] Oper.semAt_some
theorem range'_snoc (f i : Nat) : List.range' f (i + 1) = List.range' f i ++ [f + i] := by rw [List.range'_concat]; simp
theorem range'_pre (f i m : Nat) (h : i ≤ m) : List.range' f i <+: List.range' f m := by
  obtain ⟨d, rfl⟩ : ∃ d, m = i + d := ⟨m - i, by omega⟩
  rw [← List.range'_append_1]
  exact List.prefix_append _ _
set_option maxRecDepth 100000 in
set_option maxHeartbeats 1000000 in
theorem nums1_in (n : Nat) (hn : 2 ≤ n) (lp Br : Nat) (Q : Nat → Prop) (f m : Nat) (hf : f ≤ 1048576) (hm : m ≤ 300) (J Jx : List Nat → World → Prop) (hQb : Q Br) (W : World)
    (hY : ∀ (pre : List Nat) (x : Nat) (W : World), J pre W → pre.length < m → YieldAt Fence.wide (n - 1) Tryz.prog lp #[.int .i64 (x : Int)] W fun e W' =>
      (e = .returned (.bool true) ∧ J (pre ++ [x]) W' ∧ (KeepQ Q W W' ∧ W.heap.size ≤ W'.heap.size)) ∨ (e = .returned (.bool false) ∧ Jx (pre ++ [x]) W'))
    (hBr : W.heap[Br]? = some (.cells #[.int .i64 (f : Int), .int .i64 (m : Int)] 159 (0, 0))) (h0 : J [] W) :
    CallsIn Fence.wide n Tryz.prog 249 #[.func (.yield lp) #[] #[], .pointer (some ⟨Br, 0, none⟩)] W fun e W' => (∃ v, e = .returned v) ∧
      ((∃ ys, ys = List.range' f m ∧ J ys W') ∨ (∃ pre, pre <+: List.range' f m ∧ Jx pre W')) := by
  have hc1 : W.cell? ⟨Br, 1, none⟩ = some (.int .i64 (m : Int)) := (cell_at hBr 1).trans rfl
  have HBr := Lib.hid hBr; clear hBr
  refine callsIn_of_wp Tryz.func249 rfl trivial ?_ rfl
  simp only [Tryz.ntmps249, List.size_toArray, List.length_cons, List.length_nil, Nat.reduceAdd, Nat.reduceSub, Array.replicate_succ, Array.replicate_zero, List.push_toArray, List.append_toArray, List.nil_append, List.cons_append]
  gi_wp2
  gi_loopw [6] (fun p wr => ∃ i : Nat, i ≤ m ∧ p = .int .i64 (i : Int) ∧ KeepQ Q W wr ∧ W.heap.size ≤ wr.heap.size ∧ J (List.range' f i) wr)
    (fun p _ => m - (intOf p).toNat)
  case atStart => exact ⟨0, Nat.zero_le _, rfl, fun _ _ => rfl, Nat.le_refl _, h0⟩
  case round =>
    obtain ⟨i, hi, rfl, hk, hsz, hJ⟩ := hrel
    by_cases hlt : i < m
    · have cb : wr.cell? ⟨Br, 0, none⟩ = some (.int .i64 (f : Int)) := (cell_at ((hk Br hQb).trans HBr.out) 0).trans rfl
      obtain ⟨fn, tmps, assign, body, hy, hR⟩ := hY _ (f + i) wr hJ (by simp; exact hlt)
      have HP := Lib.hid (range'_snoc f i)
      have HK := Lib.hid (⟨hk, hsz⟩ : KeepQ Q W wr ∧ W.heap.size ≤ wr.heap.size)
      have hfi : ((f + i : Nat) : Int) = (f : Int) + (i : Int) := by omega
      try rw [hfi] at hy
      clear hfi
      clear hk hsz hJ
      gi_wp2
      refine ⟨fun _ => by omega, hR.mono ?_⟩
      rintro e W3 (⟨rfl, hJ3, hk3, hs3⟩ | ⟨rfl, hJx3⟩)
      · gi_wp2
        go_roundw
        case rel =>
          refine ⟨i + 1, by omega, by go_num, fun k hq => (hk3 k hq).trans (HK.out.1 k hq), Nat.le_trans HK.out.2 hs3, ?_⟩
          rw [HP.out]
          exact hJ3
        case measure => simp [intOf]; omega
      · gi_wp2
        refine bodyPost_ret (results_none rfl _ _ _) rfl ?_
        refine ⟨⟨_, rfl⟩, .inr ⟨_, ?_, hJx3⟩⟩
        rw [← HP.out]
        exact range'_pre f (i + 1) m (by omega)
    · obtain rfl : i = m := by omega
      have HJ := Lib.hid hJ
      clear hJ
      gi_wp2
      go_end0
      exact ⟨⟨_, rfl⟩, .inl ⟨_, rfl, HJ.out⟩⟩
theorem nums_stops (n : Nat) (hn : 2 ≤ n) (Br : Nat) (Q : Nat → Prop) (f m : Nat) (hf : f ≤ 1048576) (hm : m ≤ 300) (hQb : Q Br) (w : World) (hBw : Br < w.heap.size)
    (hBr : w.heap[Br]? = some (.cells #[.int .i64 (f : Int), .int .i64 (m : Int)] 159 (0, 0))) :
    SeqStopsK Fence.wide n Tryz.prog 249 #[.pointer (some ⟨Br, 0, none⟩)] (fun x : Nat => #[Value.int .i64 (x : Int)]) (KeepS Q) (fun ys => ys = List.range' f m) (fun pre => pre <+: List.range' f m) m w :=
  fun lp J Jx W hW hJ _ hY h0 => nums1_in n hn lp Br Q f m hf hm J Jx hQb W hY ((hW.block Br hBw).trans hBr) h0
set_option maxHeartbeats 1000000 in
/-- The maker of the visit. -/
theorem nums_of (n : Nat) (f m : Int) (w : World) :
    CallsIn Fence.wide n Tryz.prog 222 #[.agg #[.int .i64 f, .int .i64 m]] w fun e w' => e = .returned (.func (.func 249) #[] #[.pointer (some ⟨w.heap.size, 0, none⟩)]) ∧
      w' = w.alloc (.cells #[.int .i64 f, .int .i64 m] 159) := by
  refine callsIn_of_wp Tryz.func222 rfl trivial ?_ rfl
  simp only [Tryz.ntmps222, List.size_toArray, List.length_cons, List.length_nil, Nat.reduceAdd, Nat.reduceSub, Array.replicate_succ, Array.replicate_zero, List.push_toArray, List.append_toArray, List.nil_append, List.cons_append]
  gi_wp2
  go_ret
  exact ⟨rfl, rfl⟩
end
section
set_option linter.unusedVariables false
open Go.RowKit Go.Shelf
attribute [local go_sem] Oper.semAt_some
def SI (base : Nat) (w : World) (j : Nat) : Prop := (j < base ∨ ∃ cs t fr, w.heap[j]? = some (.cells cs t fr) ∧ t ≠ 3) ∧ j < w.heap.size
theorem si_row {base base2 : Nat} {w X : World} {v : Value} {n : Nat} {xs : List Value} (hb : base ≤ base2) (h : X.ownsRow base2 3 1 v n xs) (hk : ∀ j, SI base w j → X.heap[j]? = w.heap[j]?) : ∀ g, v.ownBlock = some g → ¬ SI base w g := by
  rintro g hg ⟨hj, hlt⟩
  rcases h.2 with ⟨rfl, _⟩ | ⟨g', cap, cur, rfl, hbg, hh, _⟩
  · simp [Value.ownBlock] at hg
  · have : g' = g := by simpa [Value.ownBlock] using hg
    subst this
    rcases hj with h1 | ⟨cs, t, fr, h1, h2⟩
    · omega
    · have := hk g' ⟨.inr ⟨cs, t, fr, h1, h2⟩, hlt⟩
      rw [hh, h1] at this
      simp at this
      exact h2 this.2.1.symm
theorem fr_putD {S : Nat → Prop} {w X : World} (h : Fr S w X) (hS : ∀ k, S k → k < w.heap.size) (D : Nat) (hD : w.heap.size ≤ D) (o : Obj) : Fr S w (X.putObj D o) :=
  ⟨h.os, h.tape, h.output, by simpa using h.size, fun k hk => (World.putObj_heap_other (by have := hS k hk; omega)).trans (h.block k hk), fun k o' ho hc => (World.putObj_heap_other (by have := (Array.getElem?_eq_some_iff.1 ho).1; omega)).trans (h.same k o' ho hc)⟩
def SRow (X : World) (B2 base k : Nat) (xs : List Value) (pre : List Nat) : Prop :=
  ∃ v, Boxed X B2 22 v ∧ X.ownsRow base 3 1 v (k + pre.length) (xs ++ zc (ns pre))
theorem sRow_own (B2 base k : Nat) (xs : List Value) : Own (fun (pre : List Nat) X => SRow X B2 base k xs pre) := by
  rintro pre X Y row ⟨v, hb, ho⟩ hg hr
  refine ⟨v, box_own B2 22 (fun _ : Unit => v) () X Y row hb hg hr, ho.kept hg ?_⟩
  rcases ho.2 with ⟨rfl, _⟩ | ⟨g, cap, cur, rfl, _, hgb, _⟩
  · exact .inl rfl
  · refine .inr fun e' => ?_
    obtain ⟨o, h1, h2⟩ := hr g (by simpa [Value.ownBlock] using e'.symm)
    rw [hgb] at h1; cases h1; cases h2
theorem app_step {w0 w1 X w3 : World} {B2 base k g' cap' : Nat} {Av : Option Addr} {cv : Nat} {xs ys : List Value} {tmp : Obj}
    (hbv : Boxed X B2 22 (.slice Av k cv)) (hrow : X.ownsRow base 3 1 (.slice Av k cv) k xs)
    (hgrow : (X.alloc tmp).grownBy w3 (Value.slice Av k cv).ownBlock) (hown' : w3.ownsRow base 3 1 (.slice (some ⟨g', 0, none⟩) (k + 1) cap') (k + 1) ys)
    (h1 : w0.heap.size ≤ w1.heap.size) (h1b : ∀ j, SI base w0 j → w1.heap[j]? = w0.heap[j]?) (hfr : Fr (SI base w0) w1 X) (hB2 : w0.heap.size ≤ B2) :
    w3.cell? ⟨B2, 0, none⟩ = some (.slice Av k cv) ∧ w3.frozen? ⟨B2, 0, none⟩ = false ∧
    Hid (Boxed (w3.setCell ⟨B2, 0, none⟩ (.slice (some ⟨g', 0, none⟩) (k + 1) cap')) B2 22 (.slice (some ⟨g', 0, none⟩) (k + 1) cap') ∧
      (w3.setCell ⟨B2, 0, none⟩ (.slice (some ⟨g', 0, none⟩) (k + 1) cap')).ownsRow base 3 1 (.slice (some ⟨g', 0, none⟩) (k + 1) cap') (k + 1) ys ∧
      Fr (SI base w0) X (w3.setCell ⟨B2, 0, none⟩ (.slice (some ⟨g', 0, none⟩) (k + 1) cap'))) := by
  have hv1 : Boxed w3 B2 22 (.slice Av k cv) := (hbv.alloc tmp).kept hgrow (hbv.not_row (by decide) hrow)
  have hne : some B2 ≠ (Value.slice (some ⟨g', 0, none⟩) (k + 1) cap').ownBlock := hv1.not_row (by decide) hown'
  refine ⟨hv1.cell, hv1.frozen, hv1.set _, hown'.kept (grownBy_setCell' w3 B2 _) (.inr hne.symm), ?_⟩
  have hlt : ∀ j, SI base w0 j → j < X.heap.size := fun j hj => by have := hj.2; have := hfr.size; omega
  refine (((Fr.refl (SI base w0) X).alloc hlt tmp).grown hgrow (fun j hj => by have := hlt j hj; simp; omega) (fun j hj => si_row (Nat.le_refl _) hrow (fun i hi => (hfr.block i hi).trans (h1b i hi)) j hj) (fun j o hj ho => own_cells (hrow.alloc tmp) j o hj ho)).setCell (p := ⟨B2, 0, none⟩) (fun h => by have := h.2; simp only at this; omega) _
set_option maxRecDepth 100000 in
set_option maxHeartbeats 2000000 in
theorem appseq_in (f m : Nat) (hf : f ≤ 1048576) (hm : m ≤ 300) (Br base : Nat) (v : Value) (k : Nat) (hk : k ≤ 1000000) (xs : List Value) (w : World) (hrow : w.ownsRow base 3 1 v k xs)
    (hBr : w.heap[Br]? = some (.cells #[.int .i64 (f : Int), .int .i64 (m : Int)] 159 (0, 0))) (hbase : base ≤ w.heap.size) :
    Calls Tryz.prog 221 #[v, .func (.func 249) #[] #[.pointer (some ⟨Br, 0, none⟩)]] w fun e w' => ∃ v', e = .returned v' ∧ w'.ownsRow base 3 1 v' (k + m) (xs ++ zc (ns (List.range' f m))) ∧ Fr (SI base w) w w' := by
  obtain ⟨i0, hi, hz0, hz1, hz2⟩ := info_parts info3
  have hBw : Br < w.heap.size := (Array.getElem?_eq_some_iff.1 hBr).1
  have hQB : SI base w Br := ⟨.inr ⟨_, _, _, hBr, by decide⟩, hBw⟩
  refine (callsIn_wide (n := 4)).1 ?_
  refine callsIn_of_wp_marks Tryz.func221 rfl trivial ?_ rfl
  simp only [Tryz.ntmps221, List.size_toArray, List.length_cons, List.length_nil, Nat.reduceAdd, Nat.reduceSub, Array.replicate_succ, Array.replicate_zero, List.push_toArray, List.append_toArray, List.nil_append, List.cons_append]
  obtain ⟨A0, c0, rfl⟩ := own_slice3 hrow
  gi_wp2
  have hnew := World.alloc_heap_new w (.cells #[.slice A0 k c0] 22)
  have hold : ∀ j, SI base w j → (w.alloc (.cells #[.slice A0 k c0] 22)).heap[j]? = w.heap[j]? := fun j hj => Below.heap_alloc _ _ _ hj.2
  have hBr1 := (hold Br hQB).trans hBr
  have hrow1 := hrow.alloc (.cells #[.slice A0 k c0] 22)
  have hs1 : (w.alloc (.cells #[.slice A0 k c0] 22)).heap.size = w.heap.size + 1 := World.size_alloc _ _
  have hfr0 : Fr (SI base w) w (w.alloc (.cells #[.slice A0 k c0] 22)) := (Fr.refl _ _).alloc (fun j hj => hj.2) _
  generalize w.alloc (.cells #[.slice A0 k c0] 22) = w1 at *
  have hvis : ∀ j, SI base w j → j < w1.heap.size := fun j hj => by have := hj.2; omega
  refine wpIn_rangeFunc_ownG rfl (by decide) (gf := 249) (lb := #[.pointer (some ⟨Br, 0, none⟩)]) rfl trivial (enters_of Tryz.func249 (by kernel_rfl) rfl)
    (nums_stops 3 (by decide) Br (SI base w) f m hf hm hQB w1 (hvis Br hQB) hBr1)
    (fun h k => keepS_t h k) (keepS_b hvis) (Below.refl _ _) (fun _ => rfl)
    (fun pre X => SRow X w.heap.size base k xs pre ∧ (Fr (SI base w) w1 X ∧ w1.heap.size ≤ X.heap.size))
    (fun _ _ _ => False)
    (OwnFrom.and (Own.from (sRow_own w.heap.size base k xs) _) (fr_own _ w1 w1.heap.size (Nat.le_refl _) hvis))
    (fun _ _ _ _ _ hs _ _ => hs)
    ⟨⟨.slice A0 k c0, hnew, by simpa [ns, zc] using hrow1⟩, Fr.refl _ _, Nat.le_refl _⟩
    ?a1 ?assign ?body ?done ?stop
  case assign =>
    intro lp x X K hK
    gi_wp2
    exact hK
  case body =>
    rintro lp pre x X ⟨⟨v, hbv, hrow⟩, hfr, hzz⟩ hlt
    obtain ⟨Av, cv, rfl⟩ := own_slice3 hrow
    have cv1 := hbv.cell
    have fv1 := hbv.frozen
    gi_wp2_with (gi_at_builtin; refine wpListIn_append_own _ rfl _ _ 22 rfl base 3 i0 (.int .i64 0) 1 8 Tryz.underlying22 hi hz0 hz1 hz2 rfl (by decide) _ _ _ rfl (hrow.alloc _) ⟨X.heap.size, 0, none⟩ 1 1 [.int .i64 (x : Int)] rfl rfl (cell_one_new _ _ _) (by simp [Value.oneCell']) (by unfold maxLen; omega) (by omega) (by simp; omega) ?_; intro v' w3 hown' hgrow _; obtain ⟨g', cap', rfl⟩ := ownsRow_succ hown'; obtain ⟨e1, e2, HE⟩ := app_step hbv hrow hgrow hown' hfr0.size hold hfr (Nat.le_refl _); clear hgrow)
    obtain ⟨E1, E2, E3⟩ := HE.out
    refine ⟨E3.others.from _, ⟨E3.block, E3.size⟩, ⟨⟨_, E1, ?_⟩, hfr.trans E3, Nat.le_trans hzz E3.size⟩⟩
    rw [List.length_append, ns_append, zc_append, ← List.append_assoc]
    exact E2
  case done =>
    rintro D ys X hD rfl ⟨⟨v, hbv, hrow⟩, hfr, hzz⟩ hK
    obtain ⟨Av, cv, rfl⟩ := own_slice3 hrow
    have cv1 := hbv.cell
    have HR3 := Lib.hid (ownsRow_putObj hrow (.deferred none) hK rfl)
    have HF := Lib.hid (hfr0.trans (fr_putD hfr hvis D hD (.deferred none)))
    rw [List.length_range'] at HR3
    simp only [List.length_range'] at cv1
    clear hrow hbv hfr
    gi_wp2
    refine ⟨by simp, .inl ⟨_, _, rfl, run_takeDeferred hK, ?_⟩⟩
    exact ⟨_, results_tmp rfl _ _ _, .slice Av (k + m) cv, rfl, HR3.out, HF.out⟩
  case stop =>
    rintro D cd pre X hD hpre h hK
    exact h.elim
end
section
set_option linter.unusedVariables false
open Go.RowKit Go.Shelf
attribute [local go_sem] Oper.semAt_some
abbrev Rb := { p : Rn // p.1 ≤ 1048576 ∧ p.2 ≤ 300 }
def encRb (x : Rb) : Array Value := #[.agg #[.int .i64 (x.1.1 : Int), .int .i64 (x.1.2 : Int)]]
def OwnB (B : Nat) (W : World) (j : Nat) : Prop := ∃ v, W.cell? ⟨B, 0, none⟩ = some v ∧ v.ownBlock = some j
def Free (base B1 B2 : Nat) (W : World) (j : Nat) : Prop := j < W.heap.size ∧ (j < base ∨ ((∃ cs t fr, W.heap[j]? = some (.cells cs t fr) ∧ t ≠ 3) ∧ j ≠ B1 ∧ j ≠ B2 ∧ ¬ OwnB B1 W j))
def Good (base B1 B2 : Nat) (W : World) : Prop := base ≤ B1 ∧ base ≤ B2 ∧ B1 < W.heap.size ∧ B2 < W.heap.size ∧ ∀ j, OwnB B1 W j → base ≤ j ∧ j < W.heap.size
def KX (base B1 B2 : Nat) (W W' : World) : Prop := Good base B1 B2 W → Good base B1 B2 W' ∧ W.heap.size ≤ W'.heap.size ∧ ∀ j, Free base B1 B2 W j → W'.heap[j]? = W.heap[j]? ∧ Free base B1 B2 W' j
theorem kx_t {base B1 B2 : Nat} {A B C : World} (h : KX base B1 B2 A B) (k : KX base B1 B2 B C) : KX base B1 B2 A C := fun g => by
  obtain ⟨g1, s1, f1⟩ := h g
  obtain ⟨g2, s2, f2⟩ := k g1
  exact ⟨g2, Nat.le_trans s1 s2, fun j hj => ⟨(f2 j (f1 j hj).2).1.trans (f1 j hj).1, (f2 j (f1 j hj).2).2⟩⟩
theorem ownB_same {B : Nat} {W W' : World} (h : W'.heap[B]? = W.heap[B]?) (j : Nat) : OwnB B W' j ↔ OwnB B W j := by
  unfold OwnB
  rw [World.cell?_of_block (w := W) (a := ⟨B, 0, none⟩) h]
theorem kx_b {base B1 B2 : Nat} {w : World} (hb : base ≤ w.heap.size) (h1 : B1 < w.heap.size) (h2 : B2 < w.heap.size) (W : World) (l : Nat) (o o' : Obj) (hl : w.heap.size ≤ l) (h : W.heap[l]? = some o) (ho : o.isCells = false) (_ : o.isWalk = false) : KX base B1 B2 W (W.putObj l o') := by
  rintro ⟨a1, a2, a3, a4, a5⟩
  have ho' : ∀ k, k ≠ l → (W.putObj l o').heap[k]? = W.heap[k]? := fun k hk => World.putObj_heap_other hk
  have o1 := ownB_same (ho' B1 (by omega))
  have hs : (W.putObj l o').heap.size = W.heap.size := by simp
  refine ⟨⟨a1, a2, by omega, by omega, fun j hj => by rw [o1] at hj; rw [hs]; exact a5 j hj⟩, by omega, fun j hj => ?_⟩
  have hne : j ≠ l := by
    rintro rfl
    rcases hj.2 with h' | ⟨⟨cs, t, fr, h', _⟩, _⟩
    · omega
    · rw [h] at h'; cases h'; cases ho
  refine ⟨ho' j hne, by rw [hs]; exact hj.1, ?_⟩
  rcases hj.2 with h' | ⟨h', b1, b2, b3⟩
  · exact .inl h'
  · exact .inr ⟨by rw [ho' j hne]; exact h', b1, b2, by rw [o1]; exact b3⟩
theorem kx_below {base B1 B2 : Nat} {W W' : World} (h : Below W.heap.size W W') : KX base B1 B2 W W' := by
  rintro ⟨a1, a2, a3, a4, a5⟩
  have hs := h.size
  have o1 := ownB_same (h.block B1 a3)
  refine ⟨⟨a1, a2, by omega, by omega, fun j hj => by rw [o1] at hj; have := a5 j hj; omega⟩, hs, fun j hj => ?_⟩
  refine ⟨h.block j hj.1, by have := hj.1; omega, ?_⟩
  rcases hj.2 with h' | ⟨h', b1, b2, b3⟩
  · exact .inl h'
  · exact .inr ⟨by rw [h.block j hj.1]; exact h', b1, b2, by rw [o1]; exact b3⟩
theorem free_at {base B1 B2 K : Nat} {W W' : World} (g : Good base B1 B2 W) (h : Below W.heap.size W W') (hK : W.heap.size ≤ K) {cs : Array Value} {t : TypeId} {fr : Nat × Nat} (ht : t ≠ 3) (hc : W'.heap[K]? = some (.cells cs t fr)) : Free base B1 B2 W' K := by
  obtain ⟨a1, a2, a3, a4, a5⟩ := g
  refine ⟨(Array.getElem?_eq_some_iff.1 hc).1, .inr ⟨⟨cs, t, fr, hc, ht⟩, by omega, by omega, ?_⟩⟩
  rw [ownB_same (h.block B1 a3)]; intro q; have := a5 _ q; omega
theorem le_drop (l : List Nat) (h : ∀ x ∈ l, x ≤ 1048576) (s : Nat) : ∀ x ∈ l.drop s, x ≤ 1048576 := fun x hx => h x (List.drop_subset s l hx)
theorem drop_get0 (l : List Nat) (s : Nat) : (l.drop s)[0]?.getD 0 = l[s]?.getD 0 := by rw [List.getElem?_drop, Nat.add_zero]
theorem zc_ns_drop (l : List Nat) (s : Nat) : (zc (ns l)).drop s = zc (ns (l.drop s)) := by simp [zc, ns, List.map_drop]
theorem add_plR (b off k : Nat) : (⟨b, off, none⟩ : Addr).add k = ⟨b, off + k, none⟩ := by unfold Addr.add; split <;> simp_all
theorem rdv_dropT {w : World} {B b off : Nat} {vs : List Value} (h : RdV w B (some ⟨b, off, none⟩) vs) (k : Nat) : RdV w B (some ⟨b, off + k, none⟩) (vs.drop k) := by
  have := h.cut k vs.length
  rw [Option.map_some, add_plR, List.take_of_length_le (by rw [List.length_drop]; omega)] at this
  exact this
theorem below_up (w : World) {o : Obj} {w1 : World} (h : Below (w.alloc o).drew.heap.size (w.alloc o).drew w1) : Below (w.heap.size + 1) (w.alloc o) w1 := by
  have hs : (w.alloc o).drew.heap.size = w.heap.size + 1 := World.size_alloc _ _
  rw [hs] at h
  exact ⟨h.os, h.tape, h.output, h.size, h.block⟩
set_option maxRecDepth 100000 in
set_option maxHeartbeats 2000000 in
theorem runs1_in (n : Nat) (hn : 2 ≤ n) (lp Bl base B1 B2 nl c : Nat) (A : Option Addr) (l : List Nat) (hnl : l.length = nl) (h300 : nl ≤ 300) (hcl : nl ≤ c) (hle : ∀ x ∈ l, x ≤ 1048576) (J Jx : List Rb → World → Prop)
    (W : World) (hg : Good base B1 B2 W) (hf : Free base B1 B2 W Bl) (hJa : AbidesFrom W.heap.size J)
    (hY : ∀ (pre : List Rb) (x : Rb) (W : World), J pre W → pre.length < nl → YieldAt Fence.wide (n - 1) Tryz.prog lp (encRb x) W fun e W' =>
      (e = .returned (.bool true) ∧ J (pre ++ [x]) W' ∧ KX base B1 B2 W W') ∨ (e = .returned (.bool false) ∧ Jx (pre ++ [x]) W'))
    (hBl : W.heap[Bl]? = some (.cells #[.slice A nl c] 22 (0, 0))) (hRd : RdV W base A (zc (ns l))) (h0 : J [] W) :
    CallsIn Fence.wide n Tryz.prog 247 #[.func (.yield lp) #[] #[], .pointer (some ⟨Bl, 0, none⟩)] W fun e W' => (∃ v, e = .returned v) ∧
      ((∃ ys : List Rb, ys.map (·.1) = rs l ∧ J ys W') ∨ (∃ pre : List Rb, pre.map (·.1) <+: rs l ∧ Jx pre W')) := by
  have HHJ := Lib.hid hJa; clear hJa
  have HHY := Lib.hid hY; clear hY
  have HLe := Lib.hid hle; clear hle
  have HN := Lib.hid hnl; clear hnl
  have HW := Lib.hid (⟨hg, hf, hBl, hRd⟩ : Good base B1 B2 W ∧ Free base B1 B2 W Bl ∧ W.heap[Bl]? = some (.cells #[.slice A nl c] 22 (0, 0)) ∧ RdV W base A (zc (ns l)))
  clear hg hf hBl hRd
  refine callsIn_of_wp Tryz.func247 rfl trivial ?_ rfl
  simp only [Tryz.ntmps247, List.size_toArray, List.length_cons, List.length_nil, Nat.reduceAdd, Nat.reduceSub, Array.replicate_succ, Array.replicate_zero, List.push_toArray, List.append_toArray, List.nil_append, List.cons_append]
  gi_wp2
  gi_loopw [3] (fun p wr => ∃ (s : Nat) (pre : List Rb), s ≤ nl ∧ p = .int .i64 (s : Int) ∧ pre.length ≤ s ∧ pre.map (·.1) ++ rs (l.drop s) = rs l ∧ KX base B1 B2 W wr ∧ J pre wr)
    (fun p _ => nl - (intOf p).toNat)
  case atStart => exact ⟨0, [], Nat.zero_le _, rfl, Nat.le_refl _, by simp, kx_below (Below.refl _ _), h0⟩
  case round =>
    obtain ⟨s, pre, hs, rfl, hps, heq, hkx, hJ⟩ := hrel
    obtain ⟨gr, hsz, hfr⟩ := hkx HW.out.1
    obtain ⟨hbl, hfl⟩ := hfr Bl HW.out.2.1
    have hbox := hbl.trans HW.out.2.2.1
    have cb : wr.cell? ⟨Bl, 0, none⟩ = some (.slice A nl c) := (cell_at hbox 0).trans rfl
    have HK := Lib.hid (⟨gr, hfl, hkx⟩ : Good base B1 B2 wr ∧ Free base B1 B2 wr Bl ∧ KX base B1 B2 W wr)
    have HBx := Lib.hid hbox
    have hbase : base ≤ W.heap.size := by have := HW.out.1.1; have := HW.out.1.2.2.1; omega
    have hRd : RdV wr base A (zc (ns l)) := HW.out.2.2.2.keep (Nat.le_refl _) (fun k hk => (hfr k ⟨by omega, .inl hk⟩).1)
    clear gr hfr hbl hfl hbox hkx
    by_cases hlt : s < nl
    · have hin : s < l.length := by rw [HN.out]; exact hlt
      obtain ⟨b, off, rfl, hb, hcx⟩ := hRd.at_ (ns_get l s hin)
      have hRd2 := rdv_dropT hRd s
      rw [zc_ns_drop] at hRd2
      obtain ⟨e1, e2, e3⟩ := rs_step (l.drop s) (by intro e; have := congrArg List.length e; simp at this; omega)
      have hx := HLe.out _ (at_mem l s hin)
      have HS : Hid (∀ V, Below wr.heap.size wr V → Calls Tryz.prog 248 #[.slice (some ⟨b, off + s, none⟩) (nl - s) (c - s)] V fun e w' => e = .returned (.int .i64 (m1 (l.drop s) : Int)) ∧ Below V.heap.size V w') := fun V hV =>
        succ_in (l.drop s) (nl - s) (by rw [List.length_drop, HN.out]) (by omega) (by omega) (le_drop l HLe.out s) _ _ V (hRd2.keep (by have := hV.size; have := HK.out.1.1; have := HK.out.1.2.2.1; omega) (fun k hk => hV.block k (by omega)))
      rw [drop_get0] at e1
      rw [List.length_drop, HN.out] at e3
      rw [e1, List.drop_drop] at heq
      generalize m1 (l.drop s) = m at *
      generalize l[s]?.getD 0 = x at *
      have HE := Lib.hid heq
      have HJ := Lib.hid hJ
      clear hJ heq e1 hRd hRd2 hin
      have HBw : Hid (b < wr.heap.size) := by show _ < _; have := HK.out.1.1; have := HK.out.1.2.2.1; omega
      have tcs : (c = s) = False := by simp; omega
      have HKs : Hid (∀ w' : World, Below wr.heap.size wr w' → w'.cell? ⟨Bl, 0, none⟩ = some (.slice (some ⟨b, off, none⟩) nl c) ∧ w'.cell? ⟨b, off + s, none⟩ = some (.int .i64 (x : Int))) :=
        fun w' h => ⟨(h.cell (p := ⟨Bl, 0, none⟩) HK.out.2.1.1).trans cb, (h.cell (p := ⟨b, off + s, none⟩) HBw.out).trans hcx⟩
      gi_wp2_with fail
      refine wpIn_wide.2 ?_
      go_region_held3 (fun w' => w'.cell? ⟨Bl, 0, none⟩ = some (.slice (some ⟨b, off, none⟩) nl c) ∧ w'.cell? ⟨b, off + s, none⟩ = some (.int .i64 (x : Int)))
        ((refine HKs.out _ ?_; first | exact hk1.out | exact (hk1.out.setCell (Nat.le_refl _) _).setCell (Nat.le_refl _) _ | exact hk1.out.trans ((one_below _ _).mono hk1.out.size) | exact (hk1.out.trans ((one_below _ _).mono hk1.out.size)).setCell (by have := hk1.out.size; omega) _ | exact (one_below _ _).drew | exact (Below.refl _ _).drew | exact ((Below.refl _ _).drew).alloc (Nat.le_refl _) _))
        (first
          | (go_at_call 248; refine (HS.out wr.drew (Below.refl _ wr).drew).mono ?_; rintro e w1 ⟨rfl, B1'⟩; have hk1 : Hid (Below wr.heap.size wr w1) := ((Below.refl _ wr).drew).trans B1'; clear B1')
          | (go_at_call 248; refine (HS.out (wr.alloc (.cells #[.int .i64 0, .int .i64 0] 159)).drew (one_below wr _).drew).mono ?_; rintro e w1 ⟨rfl, B1'⟩; have hkA : Hid (Below (wr.heap.size + 1) (wr.alloc (.cells #[.int .i64 0, .int .i64 0] 159)) w1) := (below_up wr B1'); have hk1 : Hid (Below wr.heap.size wr w1) := (one_below wr _).trans (hkA.out.mono (Nat.le_succ _)); have hbA : w1.heap[wr.heap.size]? = some (.cells #[.int .i64 0, .int .i64 0] 159 (0, 0)) := (hkA.out.block _ (Nat.lt_succ_self _)).trans (World.alloc_heap_new wr _); have q0 : w1.cell? ⟨wr.heap.size, 0, none⟩ = some (.int .i64 0) := (cell_at hbA 0).trans rfl; have q1 : w1.cell? ⟨wr.heap.size, 1, none⟩ = some (.int .i64 0) := (cell_at hbA 1).trans rfl; have f0 := frz_at hbA 0; have f1 := frz_at hbA 1; have HbA := Lib.hid hbA; clear B1' hbA))
      · have hb4 : Below wr.heap.size wr (w1.alloc (.cells #[.int .i64 (x : Int), .int .i64 (m : Int)] 159)) := hk1.out.trans ((one_below w1 _).mono hk1.out.size)
        have hn4 := World.alloc_heap_new w1 (.cells #[.int .i64 (x : Int), .int .i64 (m : Int)] 159)
        have HF : Hid (KX base B1 B2 wr (w1.alloc (.cells #[.int .i64 (x : Int), .int .i64 (m : Int)] 159)) ∧ Free base B1 B2 (w1.alloc (.cells #[.int .i64 (x : Int), .int .i64 (m : Int)] 159)) w1.heap.size ∧ J pre (w1.alloc (.cells #[.int .i64 (x : Int), .int .i64 (m : Int)] 159))) :=
          ⟨kx_below hb4, free_at HK.out.1 hb4 hk1.out.size (by decide) hn4, HHJ.out _ wr _ none HJ.out (grown_of_below hb4 none) (fun r e => by cases e)⟩
        have HN4 := Lib.hid hn4
        clear hb4 hn4 hk1 hcx hb cb
        generalize w1.alloc (.cells #[.int .i64 (x : Int), .int .i64 (m : Int)] 159) = w4 at *
        generalize w1.heap.size = K at *
        obtain ⟨fn, tmps, assign, body, hy, hR⟩ := HHY.out pre ⟨(x, m), hx, by show m ≤ 300; omega⟩ w4 HF.out.2.2 (by omega)
        dsimp only [encRb] at hy
        have p0 : w4.cell? ⟨K, 0, none⟩ = some (.int .i64 (x : Int)) := (cell_at HN4.out 0).trans rfl
        have p1 : w4.cell? ⟨K, 1, none⟩ = some (.int .i64 (m : Int)) := (cell_at HN4.out 1).trans rfl
        gi_wp2
        refine ⟨fun _ => by omega, hR.mono ?_⟩
        rintro e W3 (⟨rfl, hJ3, hk3⟩ | ⟨rfl, hJx3⟩)
        · have HJ3 := Lib.hid hJ3
          have HK3 := Lib.hid (kx_t HK.out.2.2 (kx_t HF.out.1 hk3))
          have p3 : W3.cell? ⟨K, 1, none⟩ = some (.int .i64 (m : Int)) := (cell_at (((hk3 (HF.out.1 HK.out.1).1).2.2 K HF.out.2.1).1.trans HN4.out) 1).trans rfl
          clear hJ3 hk3 p0 p1 hy hR
          gi_wp2
          go_roundw
          case rel =>
            refine ⟨s + m, pre ++ [⟨(x, m), hx, by show m ≤ 300; omega⟩], by omega, by go_num, by simp; omega, ?_, HK3.out, HJ3.out⟩
            rw [List.map_append, List.append_assoc]
            exact HE.out
          case measure => simp [intOf]; omega
        · gi_wp2
          refine bodyPost_ret (results_none rfl _ _ _) rfl ?_
          refine ⟨⟨_, rfl⟩, .inr ⟨_, ⟨rs (l.drop (s + m)), ?_⟩, hJx3⟩⟩
          rw [List.map_append, List.append_assoc]
          exact HE.out
      · have hb4 : Below wr.heap.size wr ((w1.setCell ⟨wr.heap.size, 0, none⟩ (.int .i64 (x : Int))).setCell ⟨wr.heap.size, 1, none⟩ (.int .i64 (m : Int))) := (hk1.out.setCell (Nat.le_refl _) _).setCell (Nat.le_refl _) _
        have hn4 : ((w1.setCell ⟨wr.heap.size, 0, none⟩ (.int .i64 (x : Int))).setCell ⟨wr.heap.size, 1, none⟩ (.int .i64 (m : Int))).heap[wr.heap.size]? = some (.cells #[.int .i64 (x : Int), .int .i64 (m : Int)] 159 (0, 0)) := by
          rw [heap_set_same _ _ _ _ _ _ (heap_set_same _ _ _ _ _ _ HbA.out)]
          simp
        have HF : Hid (KX base B1 B2 wr ((w1.setCell ⟨wr.heap.size, 0, none⟩ (.int .i64 (x : Int))).setCell ⟨wr.heap.size, 1, none⟩ (.int .i64 (m : Int))) ∧ Free base B1 B2 ((w1.setCell ⟨wr.heap.size, 0, none⟩ (.int .i64 (x : Int))).setCell ⟨wr.heap.size, 1, none⟩ (.int .i64 (m : Int))) wr.heap.size ∧ J pre ((w1.setCell ⟨wr.heap.size, 0, none⟩ (.int .i64 (x : Int))).setCell ⟨wr.heap.size, 1, none⟩ (.int .i64 (m : Int)))) :=
          ⟨kx_below hb4, free_at HK.out.1 hb4 (Nat.le_refl _) (by decide) hn4, HHJ.out _ wr _ none HJ.out (grown_of_below hb4 none) (fun r e => by cases e)⟩
        have HN4 := Lib.hid hn4
        clear hb4 hn4 hk1 hcx hb cb hkA HbA q0 q1 f0 f1 HKs HBw HS
        generalize (w1.setCell ⟨wr.heap.size, 0, none⟩ (.int .i64 (x : Int))).setCell ⟨wr.heap.size, 1, none⟩ (.int .i64 (m : Int)) = w4 at *
        generalize wr.heap.size = K at *
        obtain ⟨fn, tmps, assign, body, hy, hR⟩ := HHY.out pre ⟨(x, m), hx, by show m ≤ 300; omega⟩ w4 HF.out.2.2 (by omega)
        dsimp only [encRb] at hy
        have p0 : w4.cell? ⟨K, 0, none⟩ = some (.int .i64 (x : Int)) := (cell_at HN4.out 0).trans rfl
        have p1 : w4.cell? ⟨K, 1, none⟩ = some (.int .i64 (m : Int)) := (cell_at HN4.out 1).trans rfl
        gi_wp2
        refine ⟨fun _ => by omega, hR.mono ?_⟩
        rintro e W3 (⟨rfl, hJ3, hk3⟩ | ⟨rfl, hJx3⟩)
        · have HJ3 := Lib.hid hJ3
          have HK3 := Lib.hid (kx_t HK.out.2.2 (kx_t HF.out.1 hk3))
          have p3 : W3.cell? ⟨K, 1, none⟩ = some (.int .i64 (m : Int)) := (cell_at (((hk3 (HF.out.1 HK.out.1).1).2.2 K HF.out.2.1).1.trans HN4.out) 1).trans rfl
          clear hJ3 hk3 p0 p1 hy hR
          gi_wp2
          go_roundw
          case rel =>
            refine ⟨s + m, pre ++ [⟨(x, m), hx, by show m ≤ 300; omega⟩], by omega, by go_num, by simp; omega, ?_, HK3.out, HJ3.out⟩
            rw [List.map_append, List.append_assoc]
            exact HE.out
          case measure => simp [intOf]; omega
        · gi_wp2
          refine bodyPost_ret (results_none rfl _ _ _) rfl ?_
          refine ⟨⟨_, rfl⟩, .inr ⟨_, ⟨rs (l.drop (s + m)), ?_⟩, hJx3⟩⟩
          rw [List.map_append, List.append_assoc]
          exact HE.out
    · have e : rs (l.drop s) = [] := by rw [List.drop_of_length_le (by rw [HN.out]; omega)]; rfl
      rw [e, List.append_nil] at heq
      have HE := Lib.hid heq
      have HJ := Lib.hid hJ
      clear heq hJ e hRd
      obtain rfl : s = nl := by omega
      gi_wp2
      go_end0
      exact ⟨⟨_, rfl⟩, .inl ⟨pre, HE.out, HJ.out⟩⟩
theorem runs_stops (n : Nat) (hn : 2 ≤ n) (Bl base B1 B2 nl c : Nat) (A : Option Addr) (l : List Nat) (hnl : l.length = nl) (h300 : nl ≤ 300) (hcl : nl ≤ c) (hle : ∀ x ∈ l, x ≤ 1048576) (w : World) (hg : Good base B1 B2 w) (hf : Free base B1 B2 w Bl)
    (hBl : w.heap[Bl]? = some (.cells #[.slice A nl c] 22 (0, 0))) (hRd : RdV w base A (zc (ns l))) :
    SeqStopsK Fence.wide n Tryz.prog 247 #[.pointer (some ⟨Bl, 0, none⟩)] encRb (KX base B1 B2) (fun ys => ys.map (·.1) = rs l) (fun pre => pre.map (·.1) <+: rs l) nl w :=
  fun lp J Jx W hW hJ _ hY h0 => by
    obtain ⟨g1, s1, f1⟩ := kx_below hW hg
    exact runs1_in n hn lp Bl base B1 B2 nl c A l hnl h300 hcl hle J Jx W g1 (f1 Bl hf).2 hJ hY ((f1 Bl hf).1.trans hBl) (hRd.keep (Nat.le_refl _) (fun k hk => hW.block k (by have := hg.1; have := hg.2.2.1; omega))) h0
set_option maxHeartbeats 1000000 in
/-- The maker of the visit. -/
theorem runs_of (n : Nat) (A : Option Addr) (m c : Nat) (w : World) :
    CallsIn Fence.wide n Tryz.prog 220 #[.slice A m c] w fun e w' => e = .returned (.func (.func 247) #[] #[.pointer (some ⟨w.heap.size, 0, none⟩)]) ∧
      w' = w.alloc (.cells #[.slice A m c] 22) := by
  refine callsIn_of_wp Tryz.func220 rfl trivial ?_ rfl
  simp only [Tryz.ntmps220, List.size_toArray, List.length_cons, List.length_nil, Nat.reduceAdd, Nat.reduceSub, Array.replicate_succ, Array.replicate_zero, List.push_toArray, List.append_toArray, List.nil_append, List.cons_append]
  gi_wp2
  go_ret
  exact ⟨rfl, rfl⟩
end
section
set_option maxRecDepth 100000
set_option linter.unusedVariables false
open Go.RowKit Go.Shelf
theorem info_run : (Tryz.prog.info? 159).map (fun i => (i.zero, i.size, i.bytes)) = some (some (.agg #[.int .i64 0, .int .i64 0]), 2, 16) := by kernel_rfl
theorem own_same {W W' : World} {base size n : Nat} {e : TypeId} {v : Value} {xs : List Value} (h : W.ownsRow base e size v n xs) (hs : ∀ g, v.ownBlock = some g → W'.heap[g]? = W.heap[g]?) : W'.ownsRow base e size v n xs := by
  refine ⟨h.1, ?_⟩
  rcases h.2 with h | ⟨g, cap, cur, rfl, hb, hg, rest⟩
  · exact .inl h
  · exact .inr ⟨g, cap, cur, rfl, hb, (hs g rfl).trans hg, rest⟩
theorem own_type {W : World} {base size n : Nat} {e : TypeId} {v : Value} {xs : List Value} (h : W.ownsRow base e size v n xs) (g : Nat) (hg : v.ownBlock = some g) : ∃ cs, W.heap[g]? = some (.cells cs e (0, 0)) ∧ base ≤ g := by
  rcases h.2 with ⟨rfl, _⟩ | ⟨g', cap, cur, rfl, hb, hh, _⟩
  · simp [Value.ownBlock] at hg
  · have : g' = g := by simpa [Value.ownBlock] using hg
    subst this
    exact ⟨cur, hh, hb⟩
theorem own_ltb {W : World} {base size n : Nat} {e : TypeId} {v : Value} {xs : List Value} (h : W.ownsRow base e size v n xs) (g : Nat) (hg : v.ownBlock = some g) : base ≤ g ∧ g < W.heap.size := by
  obtain ⟨cs, h1, h2⟩ := own_type h g hg
  exact ⟨h2, (Array.getElem?_eq_some_iff.1 h1).1⟩
theorem good_of {base B1 B2 size n : Nat} {X : World} {t t2 e : TypeId} {v1 v2 : Value} {xs : List Value} (h1 : base ≤ B1) (h2 : base ≤ B2) (b1 : Boxed X B1 t v1) (r1 : X.ownsRow base e size v1 n xs) (b2 : Boxed X B2 t2 v2) : Good base B1 B2 X :=
  ⟨h1, h2, b1.lt, b2.lt, fun j ⟨v, hv, ho⟩ => by
    rw [b1.cell] at hv; cases hv
    exact own_ltb r1 j ho⟩
theorem ownB_box {B : Nat} {X : World} {t : TypeId} {v : Value} (b : Boxed X B t v) (j : Nat) : OwnB B X j ↔ v.ownBlock = some j := by
  unfold OwnB
  rw [b.cell]
  constructor
  · rintro ⟨v', h1, h2⟩; cases h1; exact h2
  · exact fun h => ⟨v, rfl, h⟩
theorem long_step {base B1 B2 n1 m1 n2 : Nat} {X w3 : World} {v1 v1' v2 : Value} {xs1 ys1 xs2 : List Value} {tmp : Obj} (h1 : base ≤ B1) (h2 : base ≤ B2) (hne : B1 ≠ B2)
    (b1 : Boxed X B1 154 v1) (r1 : X.ownsRow base 159 2 v1 n1 xs1) (b2 : Boxed X B2 22 v2) (r2 : X.ownsRow base 3 1 v2 n2 xs2)
    (hgrow : (X.alloc tmp).grownBy w3 v1.ownBlock) (hown : w3.ownsRow base 159 2 v1' m1 ys1) (hat : v1'.ownBlock = v1.ownBlock ∨ v1'.ownBlock = some (X.alloc tmp).heap.size) :
    w3.cell? ⟨B1, 0, none⟩ = some v1 ∧ w3.frozen? ⟨B1, 0, none⟩ = false ∧
    Hid (KX base B1 B2 X (w3.setCell ⟨B1, 0, none⟩ v1') ∧ Boxed (w3.setCell ⟨B1, 0, none⟩ v1') B1 154 v1' ∧ (w3.setCell ⟨B1, 0, none⟩ v1').ownsRow base 159 2 v1' m1 ys1 ∧
      Boxed (w3.setCell ⟨B1, 0, none⟩ v1') B2 22 v2 ∧ (w3.setCell ⟨B1, 0, none⟩ v1').ownsRow base 3 1 v2 n2 xs2 ∧ Fr (fun j => j < base) X (w3.setCell ⟨B1, 0, none⟩ v1')) := by
  have g := good_of h1 h2 b1 r1 b2
  have b13 : Boxed w3 B1 154 v1 := (b1.alloc tmp).kept hgrow (b1.not_row (by decide) r1)
  have b23 : Boxed w3 B2 22 v2 := (b2.alloc tmp).kept hgrow (b2.not_row (by decide) r1)
  have hsz : X.heap.size + 1 ≤ w3.heap.size := by have := hgrow.size; simpa using this
  have hX : ∀ j, j < X.heap.size → v1.ownBlock ≠ some j → w3.heap[j]? = X.heap[j]? := fun j hj hn =>
    (hgrow.block j (by simp; omega) (fun e => hn e.symm)).trans (Below.heap_alloc _ _ _ hj)
  have r23 : w3.ownsRow base 3 1 v2 n2 xs2 := own_same r2 (fun q hq => hX q (own_ltb r2 q hq).2 (fun e => by
    obtain ⟨cs, e1, _⟩ := own_type r1 q e
    obtain ⟨cs2, e2, _⟩ := own_type r2 q hq
    rw [e1] at e2
    simp only [Option.some.injEq, Obj.cells.injEq] at e2
    exact absurd e2.2.1 (by decide)))
  have hset : ∀ j, j ≠ B1 → (w3.setCell ⟨B1, 0, none⟩ v1').heap[j]? = w3.heap[j]? := fun j hj => Below.heap_setCell _ _ _ _ hj
  have k1 := b13.set v1'
  have hs4 : (w3.setCell ⟨B1, 0, none⟩ v1').heap.size = w3.heap.size := by simp [World.setCell]
  refine ⟨b13.cell, b13.frozen, ?_, k1, ?_, b23.other hne.symm _, ?_, ?_⟩
  · intro _
    have g' : Good base B1 B2 (w3.setCell ⟨B1, 0, none⟩ v1') := ⟨h1, h2, by rw [hs4]; exact b13.lt, by rw [hs4]; exact b23.lt, fun j hj => by rw [ownB_box k1] at hj; rw [hs4]; exact own_ltb hown j hj⟩
    refine ⟨g', by rw [hs4]; omega, fun j hj => ?_⟩
    have hn1 : v1.ownBlock ≠ some j := fun e => by
      rcases hj.2 with h | ⟨_, _, _, h⟩
      · have := (own_ltb r1 j e).1; omega
      · exact h ((ownB_box b1 j).2 e)
    have hnb : j ≠ B1 := by
      rcases hj.2 with h | ⟨_, h, _, _⟩
      · omega
      · exact h
    have hh := (hset j hnb).trans (hX j hj.1 hn1)
    refine ⟨hh, by have := hj.1; rw [hs4]; omega, ?_⟩
    rcases hj.2 with h | ⟨⟨cs, t, fr, h, ht⟩, a, b, _⟩
    · exact .inl h
    · refine .inr ⟨⟨cs, t, fr, hh.trans h, ht⟩, a, b, fun q => ?_⟩
      rw [ownB_box k1] at q
      rcases hat with e | e
      · rw [e] at q; exact hn1 q
      · rw [e] at q
        have := hj.1
        simp only [World.size_alloc, Option.some.injEq] at q
        omega
  · exact own_same hown (fun q hq => hset q (fun e => b13.not_row (by decide) hown (by rw [hq, e])))
  · exact own_same r23 (fun q hq => hset q (fun e => b13.not_row (by decide) r23 (by rw [hq, e])))
  · refine ((((Fr.refl (fun j => j < base) X).alloc (fun j hj => by have := b1.lt; omega) tmp).grown hgrow (fun j hj => by have := b1.lt; simp; omega) (fun j hj => by have := (own_ltb r1 j hj).1; omega) (fun j o hj ho => own_cells (r1.alloc tmp) j o hj ho))).setCell (p := ⟨B1, 0, none⟩) (fun h => by simp only at h; omega) _
theorem short_step {base B1 B2 n1 m2 : Nat} {X w3 : World} {v1 v2 v2' : Value} {xs1 ys2 : List Value} {tmp : Obj} (h1 : base ≤ B1) (h2 : base ≤ B2) (hne : B1 ≠ B2)
    (b1 : Boxed X B1 154 v1) (r1 : X.ownsRow base 159 2 v1 n1 xs1) (b2 : Boxed X B2 22 v2)
    (hfr : Fr (SI base (X.alloc tmp)) (X.alloc tmp) w3) (hown : w3.ownsRow base 3 1 v2' m2 ys2) :
    w3.cell? ⟨B2, 0, none⟩ = some v2 ∧ w3.frozen? ⟨B2, 0, none⟩ = false ∧
    Hid (KX base B1 B2 X (w3.setCell ⟨B2, 0, none⟩ v2') ∧ Boxed (w3.setCell ⟨B2, 0, none⟩ v2') B1 154 v1 ∧ (w3.setCell ⟨B2, 0, none⟩ v2').ownsRow base 159 2 v1 n1 xs1 ∧
      Boxed (w3.setCell ⟨B2, 0, none⟩ v2') B2 22 v2' ∧ (w3.setCell ⟨B2, 0, none⟩ v2').ownsRow base 3 1 v2' m2 ys2 ∧ Fr (fun j => j < base) X (w3.setCell ⟨B2, 0, none⟩ v2')) := by
  have hX : ∀ j, j < X.heap.size → (j < base ∨ ∃ cs t fr, X.heap[j]? = some (.cells cs t fr) ∧ t ≠ 3) → w3.heap[j]? = X.heap[j]? := fun j hj hc => by
    have ha : (X.alloc tmp).heap[j]? = X.heap[j]? := Below.heap_alloc _ _ _ hj
    refine (hfr.block j ⟨?_, by simp; omega⟩).trans ha
    rcases hc with h | ⟨cs, t, fr, h, ht⟩
    · exact .inl h
    · exact .inr ⟨cs, t, fr, ha.trans h, ht⟩
  have b13 : Boxed w3 B1 154 v1 := (hX B1 b1.lt (.inr ⟨_, _, _, b1, by decide⟩)).trans b1
  have b23 : Boxed w3 B2 22 v2 := (hX B2 b2.lt (.inr ⟨_, _, _, b2, by decide⟩)).trans b2
  have r13 : w3.ownsRow base 159 2 v1 n1 xs1 := own_same r1 (fun q hq => by
    obtain ⟨cs, e1, _⟩ := own_type r1 q hq
    exact hX q (own_ltb r1 q hq).2 (.inr ⟨_, _, _, e1, by decide⟩))
  have hsz : X.heap.size + 1 ≤ w3.heap.size := by have := hfr.size; simpa using this
  have hset : ∀ j, j ≠ B2 → (w3.setCell ⟨B2, 0, none⟩ v2').heap[j]? = w3.heap[j]? := fun j hj => Below.heap_setCell _ _ _ _ hj
  have k1 : Boxed (w3.setCell ⟨B2, 0, none⟩ v2') B1 154 v1 := b13.other hne _
  have hs4 : (w3.setCell ⟨B2, 0, none⟩ v2').heap.size = w3.heap.size := by simp [World.setCell]
  refine ⟨b23.cell, b23.frozen, ?_, k1, ?_, b23.set _, ?_, ?_⟩
  · intro g
    refine ⟨⟨h1, h2, by rw [hs4]; exact b13.lt, by rw [hs4]; exact b23.lt, fun j hj => by rw [ownB_box k1] at hj; rw [hs4]; exact own_ltb r13 j hj⟩, by rw [hs4]; omega, fun j hj => ?_⟩
    have hnb : j ≠ B2 := by
      rcases hj.2 with h | ⟨_, _, h, _⟩
      · omega
      · exact h
    have hh := (hset j hnb).trans (hX j hj.1 (hj.2.imp id (fun h => h.1)))
    refine ⟨hh, by have := hj.1; rw [hs4]; omega, ?_⟩
    rcases hj.2 with h | ⟨⟨cs, t, fr, h, ht⟩, a, b, c⟩
    · exact .inl h
    · refine .inr ⟨⟨cs, t, fr, hh.trans h, ht⟩, a, b, fun q => ?_⟩
      rw [ownB_box k1] at q
      exact c ((ownB_box b1 j).2 q)
  · exact own_same r13 (fun q hq => hset q (fun e => b23.not_row (by decide) r13 (by rw [hq, e])))
  · exact own_same hown (fun q hq => hset q (fun e => b23.not_row (by decide) hown (by rw [hq, e])))
  · refine (((Fr.refl (fun j => j < base) X).alloc (fun j hj => by have := b1.lt; omega) tmp).trans (hfr.mono (fun j hj => ⟨.inl hj, by have := b1.lt; simp; omega⟩))).setCell (p := ⟨B2, 0, none⟩) (fun h => by simp only at h; omega) _
end
section
set_option linter.unusedVariables false
open Go.RowKit Go.Shelf
attribute [local go_sem] Oper.semAt_some
def SpO (w : World) (R : List Ri) (l : List Nat) (err : Int) (e : Ending) (w' : World) : Prop :=
  ∃ A1 c1 A2 c2, e = .returned (.tuple #[.slice A1 R.length c1, .slice A2 l.length c2, .int .i64 err]) ∧ w'.ownsRow w.heap.size 159 2 (.slice A1 R.length c1) R.length (rcs R) ∧ w'.ownsRow w.heap.size 3 1 (.slice A2 l.length c2) l.length (zc (ns l)) ∧ Below w.heap.size w w'
theorem lng_len (k : Nat) (R : List Rn) : (lng k R).length ≤ R.length := List.length_filter_le _ _
theorem sht_len (k : Nat) : ∀ R : List Rb, (flatR (sht k (R.map (·.1)))).length ≤ 300 * R.length
  | [] => by simp [sht, flatR]
  | x :: R => by
    have ih := sht_len k R
    have hx := x.2.2
    have e : flatR (sht k ((x :: R).map (·.1))) = (if x.1.2 < k then nums x.1 else []) ++ flatR (sht k (R.map (·.1))) := by
      unfold sht
      rw [List.map_cons, List.filter_cons]
      by_cases h : x.1.2 < k
      · rw [if_pos (by simpa using h), if_pos h, flatR_cons]
      · rw [if_neg (by simpa using h), if_neg h, List.nil_append]
    rw [e, List.length_append, List.length_cons]
    split
    · rw [nums_length]; omega
    · simp; omega
theorem rz_snoc (R : List Rn) (p : Rn) : rz (R ++ [p]) = rz R ++ [((p.1 : Int), (p.2 : Int))] := by simp [rz]
theorem own_capT {w : World} {base size : Nat} {e : TypeId} {A : Option Addr} {n c : Nat} {vs : List Value} (h : w.ownsRow base e size (.slice A n c) n vs) : n ≤ c ∧ (A = none → c = 0) := by
  rcases h.2 with ⟨h, h2⟩ | ⟨g, cap, cur, h, _, _, h2, _⟩
  · simp only [Value.slice.injEq] at h
    exact ⟨by omega, fun _ => h.2.2⟩
  · simp only [Value.slice.injEq] at h
    exact ⟨by omega, fun hA => by rw [hA] at h; cases h.1⟩
theorem own_rdvT {w : World} {base size : Nat} {e : TypeId} {A : Option Addr} {n c : Nat} {vs : List Value} (h : w.ownsRow base e size (.slice A n c) n vs) : RdV w w.heap.size A vs := by
  rcases h.2 with ⟨_, h0⟩ | ⟨g, cap, cur, he, _, hg, _⟩
  · have := h.1
    rw [h0, Nat.zero_mul] at this
    exact .inl (List.eq_nil_of_length_eq_zero this)
  · simp only [Value.slice.injEq] at he
    obtain ⟨rfl, _, _⟩ := he
    refine .inr ⟨g, 0, rfl, (Array.getElem?_eq_some_iff.1 hg).1, fun i v hi => ?_⟩
    have hh := h.cells (g := g) rfl i v hi
    have ha : (⟨g, 0, none⟩ : Addr).add i = ⟨g, 0 + i, none⟩ := by unfold Addr.add; split <;> simp_all
    rw [ha] at hh
    exact hh
theorem ibox_at {w V : World} {a : Value} (h : Below (w.heap.size + 1) (w.alloc (.cells #[a] 3)) V) : V.cell? ⟨w.heap.size, 0, none⟩ = some a :=
  box_cell ((h.block w.heap.size (by omega)).trans (World.alloc_heap_new w (.cells #[a] 3)))
def okL (k : Int) : Bool := decide (2 ≤ k ∧ k ≤ 300)
set_option maxHeartbeats 400000 in
theorem atleast_any (k : Int) (w : World) : Calls Tryz.prog 62 #[.int .i64 k] w fun e w' => e = .returned (.bool (okL k)) ∧ w = w' := by
  by_cases h1 : 2 ≤ k
  · by_cases h2 : k ≤ 300
    · have e : okL k = true := by unfold okL; simp; omega
      have t1 : decide ((2 : Int) ≤ k) = true := by simp; omega
      have t2 : decide (k ≤ 300) = true := by simp; omega
      rw [e]
      go_enter Tryz.func62, Tryz.ntmps62
      go_wp2
      go_ret
      exact ⟨rfl, rfl⟩
    · have e : okL k = false := by unfold okL; simp; omega
      have t1 : decide ((2 : Int) ≤ k) = true := by simp; omega
      have t2 : decide (k ≤ 300) = false := by simp; omega
      rw [e]
      go_enter Tryz.func62, Tryz.ntmps62
      go_wp2
      go_ret
      exact ⟨rfl, rfl⟩
  · have e : okL k = false := by unfold okL; simp; omega
    have t1 : decide ((2 : Int) ≤ k) = false := by simp; omega
    rw [e]
    go_enter Tryz.func62, Tryz.ntmps62
    go_wp2
    go_ret
    exact ⟨rfl, rfl⟩
set_option maxRecDepth 100000 in
set_option maxHeartbeats 4000000 in
theorem split_own (l : List Nat) (hl : Rising l) (n : Nat) (hn : l.length = n) (k : Nat) (hk : 2 ≤ k) (hk2 : k ≤ 300) (A : Option Addr) (c : Nat) (hc : n ≤ c) (w : World) (h : RdV w w.heap.size A (zc (ns l))) :
    Calls Tryz.prog 181 #[.slice A n c, .int .i64 (k : Int)] w (SpO w (rz (lng k (rs l))) (flatR (sht k (rs l))) 0) := by
  have h300 : n ≤ 300 := by have := hl.1; omega
  have HC : Hid (∀ V, Below w.heap.size w V → Calls Tryz.prog 50 #[.slice A n c] V fun e w' => e = .returned (.int .i64 0) ∧ Below V.heap.size V w') := fun V hV => by
    have := gcheck_any (ns l) n (by rw [ns_length]; exact hn) (by omega) A c V (h.on hV)
    rwa [rchk_ok l hl] at this
  have HLs : Hid (∀ V, Calls Tryz.prog 62 #[.int .i64 (k : Int)] V fun e w' => e = .returned (.bool true) ∧ V = w') := fun V => by
    have e1 : okL (k : Int) = true := by unfold okL; simp; omega
    have := atleast_any (k : Int) V
    rwa [e1] at this
  have HE : Hid True := trivial
  have HR := Lib.hid (range1 0 true 0 rfl)
  have hle := fun x hx => (ris_le l _ hl.2 x hx).2
  obtain ⟨i0, hi, hz0, hz1, hz2⟩ := info_parts info_run
  have HX := Lib.hid h
  clear h
  refine (callsIn_wide (n := 6)).1 ?_
  refine callsIn_of_wp_marks Tryz.func181 rfl trivial ?_ rfl
  simp only [Tryz.ntmps181, List.size_toArray, List.length_cons, List.length_nil, Nat.reduceAdd, Nat.reduceSub, Array.replicate_succ, Array.replicate_zero, List.push_toArray, List.append_toArray, List.nil_append, List.cons_append]
  gi_wp2_with fail
  generalize hV : w.alloc (.cells #[.int .i64 (k : Int)] 3) = V0
  have HV : Hid (Below w.heap.size w V0 ∧ w.heap.size < V0.heap.size) := hV ▸ ⟨one_below _ _, by simp⟩
  have HK : Hid (∀ w' : World, Below V0.heap.size V0 w' → w'.cell? ⟨w.heap.size, 0, none⟩ = some (.int .i64 (k : Int))) := by
    subst hV
    exact fun w' h => ibox_at (by rwa [World.size_alloc] at h)
  clear hV
  refine wpIn_wide.2 ?_
  go_region_held3 (fun w' => w'.cell? ⟨w.heap.size, 0, none⟩ = some (.int .i64 (k : Int)))
    ((refine HK.out _ ?_; first | exact hk2.out | exact hk1.out.trans ((one_below _ _).mono hk1.out.size) | exact hk1.out | exact (one_below _ _).drew | exact (Below.refl _ _).drew))
    (first
      | (go_at_call 48; have hx := hk1.out; refine (HR.out w1 _ rfl).mono ?_; rintro e w2 ⟨rfl, B2⟩; have hk2 : Hid (Below V0.heap.size V0 w2) := hx.trans (B2.mono hx.size); clear B2 hx)
      | (go_at_call 62; have hx := hk1.out; refine (HLs.out w1).mono ?_; rintro e wq ⟨rfl, rfl⟩; clear hx)
      | (go_at_call 50; refine (HC.out V0.drew HV.out.1.drew).mono ?_; rintro e w1 ⟨rfl, B1⟩; have hk1 : Hid (Below V0.heap.size V0 w1) := ((Below.refl _ V0).drew).trans B1; clear B1))
  · skip
    have HB2 : Hid (Below w.heap.size w w2) := HV.out.1.trans (hk2.out.mono HV.out.1.size)
    have HKc := Lib.hid (HK.out w2 hk2.out)
    have hkw : w.heap.size < w2.heap.size := by have := HV.out.2; have := hk2.out.size; omega
    clear HK hk1 hk2 HV
    gi_wp2_with (first | (refine ⟨trivial, ?_⟩; gi_at_call 220; refine (runs_of 5 _ _ _ _).mono ?_; rintro e w' ⟨rfl, rfl⟩))
    have bL := ((Boxed.new w2 154 (.slice none 0 0)).alloc (.cells #[.slice none 0 0] 22)).alloc (.cells #[.slice A n c] 22)
    have bR := (Boxed.new (w2.alloc (.cells #[.slice none 0 0] 154)) 22 (.slice none 0 0)).alloc (.cells #[.slice A n c] 22)
    have bA := Boxed.new ((w2.alloc (.cells #[.slice none 0 0] 154)).alloc (.cells #[.slice none 0 0] 22)) 22 (.slice A n c)
    simp only [World.size_alloc] at bR bA
    have hB0 : Below w2.heap.size w2 (((w2.alloc (.cells #[.slice none 0 0] 154)).alloc (.cells #[.slice none 0 0] 22)).alloc (.cells #[.slice A n c] 22)) := (((Below.refl _ w2).alloc (Nat.le_refl _) _).alloc (by simp) _).alloc (by simp; omega) _
    have hsz : (((w2.alloc (.cells #[.slice none 0 0] 154)).alloc (.cells #[.slice none 0 0] 22)).alloc (.cells #[.slice A n c] 22)).heap.size = w2.heap.size + 3 := by simp
    obtain ⟨W0, hW0⟩ : ∃ W0, ((w2.alloc (.cells #[.slice none 0 0] 154)).alloc (.cells #[.slice none 0 0] 22)).alloc (.cells #[.slice A n c] 22) = W0 := ⟨_, rfl⟩
    rw [hW0] at bL bR bA hB0 hsz ⊢
    clear hW0
    have gd : Good w2.heap.size w2.heap.size (w2.heap.size + 1) W0 := good_of (size := 2) (n := 0) (e := 159) (xs := []) (Nat.le_refl _) (by omega) bL ⟨rfl, .inl ⟨rfl, rfl⟩⟩ bR
    have fr : Free w2.heap.size w2.heap.size (w2.heap.size + 1) W0 (w2.heap.size + 1 + 1) := ⟨by omega, .inr ⟨⟨_, _, _, bA, by decide⟩, by omega, by omega, fun q => by rw [ownB_box bL] at q; simp [Value.ownBlock] at q⟩⟩
    have hlow : Below w.heap.size w W0 := HB2.out.trans (hB0.mono HB2.out.size)
    have hRdA : RdV W0 w2.heap.size A (zc (ns l)) := HX.out.below hlow HB2.out.size
    have hkc : W0.cell? ⟨w.heap.size, 0, none⟩ = some (.int .i64 (k : Int)) := (hB0.cell (p := ⟨w.heap.size, 0, none⟩) hkw).trans HKc.out
    have HLow := Lib.hid hlow
    clear hlow hB0 HX HC HE HR HKc
    refine wpIn_rangeFunc_ownH rfl (by decide) (gf := 247) (lb := #[.pointer (some ⟨w2.heap.size + 1 + 1, 0, none⟩)]) rfl trivial (enters_of Tryz.func247 (by kernel_rfl) rfl)
      (runs_stops 5 (by decide) (w2.heap.size + 1 + 1) w2.heap.size w2.heap.size (w2.heap.size + 1) n c A l hn h300 hc hle W0 gd fr bA hRdA)
      (fun h k => kx_t h k) (fun W l o o' h1 h2 h3 h4 => kx_b (by omega) (by omega) (by omega) W l o o' h1 h2 h3 h4) (Below.refl _ _) (fun _ => rfl)
      (fun (pre : List Rb) X => ((∃ v, Boxed X w2.heap.size 154 v ∧ X.ownsRow w2.heap.size 159 2 v (lng k (pre.map (·.1))).length (rcs (rz (lng k (pre.map (·.1))))) ∧ True) ∧
        (∃ v, Boxed X (w2.heap.size + 1) 22 v ∧ X.ownsRow w2.heap.size 3 1 v (flatR (sht k (pre.map (·.1)))).length (zc (ns (flatR (sht k (pre.map (·.1)))))) ∧ True)) ∧ Below w2.heap.size W0 X)
      (fun _ _ _ => False)
      (OwnFrom.and (OwnFrom.and (Own.from (holdsRow_own w2.heap.size w2.heap.size 154 159 2 (fun pre : List Rb => (lng k (pre.map (·.1))).length) (fun pre : List Rb => rcs (rz (lng k (pre.map (·.1))))) (fun _ _ => True)) _)
        (Own.from (holdsRow_own w2.heap.size (w2.heap.size + 1) 22 3 1 (fun pre : List Rb => (flatR (sht k (pre.map (·.1)))).length) (fun pre : List Rb => zc (ns (flatR (sht k (pre.map (·.1)))))) (fun _ _ => True)) _)) (ownFrom_below (by omega) (by omega)))
      (fun _ _ _ _ _ hs _ _ => hs)
      ⟨⟨⟨_, bL, ⟨rfl, .inl ⟨rfl, rfl⟩⟩, trivial⟩, ⟨_, bR, ⟨rfl, .inl ⟨rfl, rfl⟩⟩, trivial⟩⟩, Below.refl _ _⟩
      (fun x a' W => ∃ Bx, W0.heap.size ≤ Bx ∧ W.heap[Bx]? = some (.cells #[.int .i64 (x.1.1 : Int), .int .i64 (x.1.2 : Int)] 159 (0, 0)) ∧ a' = { tmps := #[.slice A n c, .int .i64 (k : Int), undef, .pointer (some ⟨w.heap.size, 0, none⟩), .slice none 0 0, .slice none 0 0, .int .i64 0, .int .i64 0, .pointer (some ⟨w2.heap.size, 0, none⟩), .pointer (some ⟨w2.heap.size + 1, 0, none⟩), .pointer (some ⟨Bx, 0, none⟩), .slice A n c, .int .i64 0, .int .i64 (k : Int), .bool true, .slice (some ⟨w1.heap.size, 0, none⟩) 1 1, .int .i64 0, .int .i64 0, .bool false, undef, .slice A n c, .func (.func 247) #[] #[.pointer (some ⟨w2.heap.size + 1 + 1, 0, none⟩)], .agg #[.int .i64 (x.1.1 : Int), .int .i64 (x.1.2 : Int)], undef, undef, undef, undef, undef, undef, undef, undef, undef, undef, undef, undef, undef, undef], defers := [] })
      (fun x a' _ X Y row hs hg hr => by
        obtain ⟨Bx, h1, h2, h3⟩ := hs
        refine ⟨Bx, h1, (hg.block Bx (Array.getElem?_eq_some_iff.1 h2).1 (fun e => ?_)).trans h2, h3⟩
        obtain ⟨o, ho, hcl⟩ := (hr Bx e.symm).2
        rw [h2] at ho; cases ho; cases hcl)
      ?assign ?body ?done ?stop
    case assign =>
      rintro lp pre x W K ⟨⟨⟨v1, b1, r1, -⟩, ⟨v2, b2, r2, -⟩⟩, hB⟩ hK
      dsimp only [encRb]
      gi_wp2
      exact hK _ _ ((KeepsOthers.alloc _ _).from _) (kx_below (one_below W _)) ⟨⟨⟨v1, b1.alloc _, r1.alloc _, trivial⟩, ⟨v2, b2.alloc _, r2.alloc _, trivial⟩⟩, hB.alloc (by have := hB.size; omega) _⟩ ⟨W.heap.size, hB.size, World.alloc_heap_new W _, rfl⟩
    case body =>
      rintro lp pre x a' X hl hrec ⟨⟨⟨v1, b1, r1, -⟩, ⟨v2, b2, r2, -⟩⟩, hB⟩ ⟨Bx, hBx, hx, rfl⟩ hlt
      have p0 : X.cell? ⟨Bx, 0, none⟩ = some (.int .i64 (x.1.1 : Int)) := (cell_at hx 0).trans rfl
      have p1 : X.cell? ⟨Bx, 1, none⟩ = some (.int .i64 (x.1.2 : Int)) := (cell_at hx 1).trans rfl
      have kc : X.cell? ⟨w.heap.size, 0, none⟩ = some (.int .i64 (k : Int)) := (hB.cell (p := ⟨w.heap.size, 0, none⟩) hkw).trans hkc
      have hn1 := lng_len k (pre.map (·.1))
      have hn2 := sht_len k pre
      have e1 : (pre ++ [x]).map (·.1) = pre.map (·.1) ++ [x.1] := by simp
      have hls := lng_snoc k (pre.map (·.1)) x.1
      have hss := sht_snoc k (pre.map (·.1)) x.1
      rw [← e1] at hls hss
      rw [List.length_map] at hn1
      obtain ⟨A1, c1, rfl⟩ := own_sliceT r1
      obtain ⟨A2, c2, rfl⟩ := own_slice3 r2
      have cv1 := b1.cell
      have fv1 := b1.frozen
      have cv2 := b2.cell
      have fv2 := b2.frozen
      generalize pre.map (·.1) = pr at *
      obtain ⟨⟨f, m⟩, hf, hm⟩ := x
      simp only at *
      by_cases hlong : k ≤ m
      · rw [if_pos hlong] at hls hss
        rw [List.append_nil] at hss
        have t1 : decide ((k : Int) ≤ (m : Int)) = true := by simp; omega
        have t2 : decide (k ≤ m) = true := by simpa using hlong
        have HL := Lib.hid hls
        have HS := Lib.hid hss
        clear hls hss hlong e1
        generalize hln : (lng k pr).length = n1 at *
        have HLn := Lib.hid hln
        clear hln
        gi_wp2_with (gi_at_builtin; refine wpListIn_append_own_at _ rfl _ _ 154 rfl w2.heap.size 159 i0 (.agg #[.int .i64 0, .int .i64 0]) 2 16 Tryz.underlying154 hi hz0 hz1 hz2 rfl (by decide) _ _ _ rfl (r1.alloc _) ⟨X.heap.size, 0, none⟩ 1 1 [.int .i64 (f : Int), .int .i64 (m : Int)] rfl rfl (news_row X [.int .i64 (f : Int), .int .i64 (m : Int)] _) (by simp [Value.oneCell']) (by unfold maxLen; omega) (by omega) (by have := b1.lt; simp; omega) ?_; intro v' w3 hown' hgrow _ hat; obtain ⟨g', cap', rfl⟩ := ownsRow_succ hown'; obtain ⟨e1, e2, HE⟩ := long_step (Nat.le_refl _) (Nat.le_succ _) (Nat.ne_of_lt (Nat.lt_succ_self _)) b1 r1 b2 r2 hgrow hown' hat; clear hgrow)
        obtain ⟨E1, E2, E3, E4, E5, E6⟩ := HE.out
        refine ⟨E6.others.from _, E1, ⟨⟨⟨_, E2, ?_, trivial⟩, ⟨_, E4, ?_, trivial⟩⟩, hB.trans (E6.below (fun j hj => hj))⟩⟩
        · rw [HL.out, List.length_append, HLn.out, rz_snoc, rcs_append]
          exact E3
        · rw [HS.out]; exact E5
      · rw [if_neg hlong] at hls hss
        rw [List.append_nil] at hls
        have t1 : decide ((k : Int) ≤ (m : Int)) = false := by simp; omega
        have t2 : decide (k ≤ m) = false := by simp; omega
        have HL := Lib.hid hls
        have HS := Lib.hid hss
        clear hls hss hlong e1
        generalize hln : (flatR (sht k pr)).length = n2 at *
        have HLn := Lib.hid hln
        clear hln
        have HD : Hid ((X.alloc (.cells #[.int .i64 (f : Int), .int .i64 (m : Int)] 159)).drew.ownsRow w2.heap.size 3 1 (.slice A2 n2 c2) n2 (zc (ns (flatR (sht k pr)))) ∧ (X.alloc (.cells #[.int .i64 (f : Int), .int .i64 (m : Int)] 159)).drew.heap[X.heap.size]? = some (.cells #[.int .i64 (f : Int), .int .i64 (m : Int)] 159 (0, 0)) ∧ w2.heap.size ≤ (X.alloc (.cells #[.int .i64 (f : Int), .int .i64 (m : Int)] 159)).drew.heap.size) :=
          ⟨r2.alloc _, World.alloc_heap_new X _, by have := b1.lt; show _ ≤ (X.alloc _).heap.size; simp; omega⟩
        have nw2 : (X.alloc (.cells #[.int .i64 (f : Int), .int .i64 (m : Int)] 159)).cell? ⟨w2.heap.size + 1, 0, none⟩ = some (.slice A2 n2 c2) := (b2.alloc _).cell
        have nw3 : (X.alloc (.cells #[.int .i64 (f : Int), .int .i64 (m : Int)] 159)).drew.cell? ⟨w2.heap.size + 1, 0, none⟩ = some (.slice A2 n2 c2) := (b2.alloc _).cell
        gi_wp2_with fail
        gi_region_with (first
          | (refine ⟨trivial, ?_⟩; refine (CallsIn.inRound _ (nums_of _ _ _ _)).mono ?_; rintro e w' ⟨rfl, rfl⟩)
          | (refine ⟨trivial, ?_⟩; refine (CallsIn.inRound _ (callsIn_wide.2 (appseq_in f m hf hm X.heap.size w2.heap.size (.slice A2 n2 c2) n2 (by omega) (zc (ns (flatR (sht k pr)))) (X.alloc (.cells #[.int .i64 (f : Int), .int .i64 (m : Int)] 159)).drew HD.out.1 HD.out.2.1 HD.out.2.2))).mono ?_; rintro e w3 ⟨v', rfl, hown', hfr⟩; obtain ⟨Av', cv', rfl⟩ := own_slice3 hown'; obtain ⟨e1, e2, HE⟩ := short_step (Nat.le_refl _) (Nat.le_succ _) (Nat.ne_of_lt (Nat.lt_succ_self _)) b1 r1 b2 ⟨hfr.os, hfr.tape, hfr.output, hfr.size, hfr.block, hfr.same⟩ hown'; clear hfr))
        all_goals (
          obtain ⟨E1, E2, E3, E4, E5, E6⟩ := HE.out
          refine ⟨E6.others.from _, E1, ⟨⟨⟨_, E2, ?_, trivial⟩, ⟨_, E4, ?_, trivial⟩⟩, hB.trans (E6.below (fun j hj => hj))⟩⟩
          · rw [HL.out]; exact E3
          · rw [HS.out, flatR_snoc, List.length_append, HLn.out, nums_length, ns_append, zc_append]
            exact E5)
    case done =>
      rintro D ys X hD hys ⟨⟨⟨v1, b1, r1, -⟩, ⟨v2, b2, r2, -⟩⟩, hB⟩ hK
      rw [hys] at r1 r2
      obtain ⟨A1, c1, rfl⟩ := own_sliceT r1
      obtain ⟨A2, c2, rfl⟩ := own_slice3 r2
      have cv1 := b1.cell
      have cv2 := b2.cell
      have HR1 : Hid ((X.putObj D (.deferred none)).ownsRow w.heap.size 159 2 (.slice A1 (lng k (rs l)).length c1) (lng k (rs l)).length (rcs (rz (lng k (rs l))))) := own_base (ownsRow_putObj r1 _ hK rfl) HB2.out.size
      have HR2 : Hid ((X.putObj D (.deferred none)).ownsRow w.heap.size 3 1 (.slice A2 (flatR (sht k (rs l))).length c2) (flatR (sht k (rs l))).length (zc (ns (flatR (sht k (rs l)))))) := own_base (ownsRow_putObj r2 _ hK rfl) HB2.out.size
      have HL : Hid (Below w.heap.size w (X.putObj D (.deferred none))) := (HLow.out.trans (hB.mono (by omega))).trans (belowK_b (w := w) (Nat.le_refl _) _ D _ _ (by omega) hK rfl rfl)
      clear r1 r2 b1 b2 hB
      gi_wp2_with fail
      refine wpIn_wide.2 ?_
      go_quiet (fail)
      gi_wp2
      refine ⟨by simp, .inl ⟨_, _, rfl, run_takeDeferred (w := X.drewN _) hK, ?_⟩⟩
      exact ⟨_, results_tmp3 rfl _ _ _, A1, c1, A2, c2, by rw [rz_length]; rfl, by rw [rz_length]; exact HR1.out, HR2.out, ⟨HL.out.os, HL.out.tape, HL.out.output, HL.out.size, HL.out.block⟩⟩
    case stop =>
      rintro D cd pre X hD hpre h hK
      exact h.elim
end
section
set_option maxRecDepth 100000
set_option linter.unusedVariables false
open Go.RowKit Go.Shelf
set_option maxHeartbeats 400000 in
theorem lblock_any (i : Nat) (hi : i ≤ 1000000) (w : World) : Calls Tryz.prog 180 #[.int .i64 (i : Int)] w fun e w' => e = .returned (.int .i64 (if i = 0 then 0 else 1)) ∧ w = w' := by
  by_cases h : i = 0
  · subst h
    have t1 : min ((0 : Nat) : Int) 1 = 0 := by decide
    rw [if_pos rfl]
    go_enter Tryz.func180, Tryz.ntmps180
    go_wp2
    go_ret
    exact ⟨by first | rfl | simp, rfl⟩
  · have t1 : min ((i : Nat) : Int) 1 = 1 := by omega
    have t2 : decide ((i : Int) < 1) = false := by simp; omega
    have t3 : decide ((1 : Int) < (i : Int)) = decide (1 < i) := by congr 1; apply propext; omega
    have t4 : ¬ (i : Int) < 1 := by omega
    rw [if_neg h]
    go_enter Tryz.func180, Tryz.ntmps180
    go_wp2
    go_ret
    exact ⟨by first | rfl | simp [t1] | (simp; omega), rfl⟩
set_option maxHeartbeats 1000000 in
/-- The least number with which a further run begins. -/
theorem lfrom_any (r : List Ri) (n : Nat) (hn : r.length = n) (h1 : 1 ≤ n) (hn2 : n ≤ 1000000) (f m : Int) (hl : r[n - 1]?.getD (0, 0) = (f, m)) (hf : -9000000000000 ≤ f ∧ f ≤ 9000000000000) (hm : -9000000000000 ≤ m ∧ m ≤ 9000000000000) (A : Option Addr) (c : Nat) (w : World) (h : RdV w w.heap.size A (rcs r)) :
    Calls Tryz.prog 224 #[.slice A n c] w fun e w' => e = .returned (.int .i64 (f + m + 1)) ∧ Below w.heap.size w w' := by
  obtain ⟨r0, r1⟩ := rcs_at r (n - 1) (by omega)
  rw [hl] at r0 r1
  obtain ⟨b, off, rfl, hb, k0⟩ := h.at_ r0
  obtain ⟨b2, off2, hA2', hb2, k1⟩ := h.at_ r1
  simp only [Option.some.injEq, Addr.mk.injEq, and_true] at hA2'
  obtain ⟨rfl, rfl⟩ := hA2'
  rw [← Nat.add_assoc] at k1
  have t1 : IntKind.i64.wrap ((n : Int) - 1) = (n : Int) - 1 := IntWalk.i64_in _ (by omega)
  have t2 : (0 : Int) ≤ (n : Int) - 1 := by omega
  have t3 : (n : Int) - 1 < (n : Int) := by omega
  have t4 : ((n : Int) - 1).toNat = n - 1 := by omega
  have t5 : (1 : Int) ≤ (n : Int) := by omega
  have t6 : (n : Int) < (n : Int) + 1 := by omega
  have t7 : IntKind.i64.wrap (f + m) = f + m := IntWalk.i64_in _ (by omega)
  have t8 : IntKind.i64.wrap (f + m + 1) = f + m + 1 := IntWalk.i64_in _ (by omega)
  have hB := one_below w (.cells #[.int .i64 f, .int .i64 m] 159)
  have HB := Lib.hid hB
  clear h r0 r1 hl hn hB
  go_enter Tryz.func224, Tryz.ntmps224
  go_wp2
  go_ret
  exact ⟨rfl, HB.out⟩
end
section
set_option maxRecDepth 100000
set_option linter.unusedVariables false
open Go.RowKit Go.Shelf
set_option maxHeartbeats 400000 in
theorem cnan_any (x : Int) (w : World) : Calls Tryz.prog 243 #[.int .i64 x] w fun e w' => e = .returned (.bool false) ∧ w = w' := by
  have t1 : (x != x) = false := by simp
  go_enter Tryz.func243, Tryz.ntmps243
  go_wp2
  go_ret
  exact ⟨by simp, rfl⟩
set_option maxHeartbeats 400000 in
theorem snan_any (x : Int) (w : World) : Calls Tryz.prog 262 #[.int .i64 x] w fun e w' => e = .returned (.bool false) ∧ w = w' := by
  have t1 : (x != x) = false := by simp
  go_enter Tryz.func262, Tryz.ntmps262
  go_wp2
  go_ret
  exact ⟨by simp, rfl⟩
set_option maxHeartbeats 400000 in
theorem less_any (x y : Int) (w : World) : Calls Tryz.prog 211 #[.int .i64 x, .int .i64 y] w fun e w' => e = .returned (.bool (decide (x < y))) ∧ w = w' := by
  go_enter Tryz.func211, Tryz.ntmps211
  go_wp2_with (go_at_call 243; refine (cnan_any _ _).mono ?_; rintro e w' ⟨rfl, rfl⟩)
  go_ret
  exact ⟨rfl, rfl⟩
theorem lt_get (l : List Nat) (hp : l.Pairwise (· < ·)) (i j : Nat) (h : i < j) (hj : j < l.length) : l[i]?.getD 0 < l[j]?.getD 0 := by
  rw [List.getElem?_eq_getElem hj, List.getElem?_eq_getElem (by omega)]
  exact List.pairwise_iff_getElem.1 hp i j (by omega) hj h
def BsRel (l : List Nat) (x : Int) (w : World) (p q : Value) (wr : World) : Prop :=
  ∃ lo hi : Nat, p = .int .i64 (lo : Int) ∧ q = .int .i64 (hi : Int) ∧ lo ≤ hi ∧ hi ≤ l.length ∧ Below w.heap.size w wr ∧ (∀ t, t < lo → ((l[t]?.getD 0 : Nat) : Int) < x) ∧ (∀ t, hi ≤ t → t < l.length → x ≤ ((l[t]?.getD 0 : Nat) : Int))
set_option maxHeartbeats 4000000 in
theorem find_any (l : List Nat) (hp : l.Pairwise (· < ·)) (hle : ∀ y ∈ l, y ≤ 1048576) (n : Nat) (hn : l.length = n) (hn2 : n ≤ 1000000) (x : Int) (A : Option Addr) (c : Nat) (w : World) (h : RdV w w.heap.size A (zc (ns l))) :
    Calls Tryz.prog 246 #[.slice A n c, .int .i64 x] w fun e w' => (∃ i : Int, e = .returned (.tuple #[.int .i64 i, .bool (decide (x ∈ ns l))])) ∧ Below w.heap.size w w' := by
  have HX := Lib.hid h; have HN := Lib.hid hn; have HP := Lib.hid (lt_get l hp)
  have HLe := Lib.hid hle
  clear h hn hp hle
  go_enter Tryz.func246, Tryz.ntmps246
  go_wp2
  go_loopw [7, 8] (fun p q wr => BsRel l x w p q wr) (fun p q _ => (intOf q).toNat - (intOf p).toNat)
  case atStart => exact ⟨0, n, rfl, rfl, Nat.zero_le _, by rw [HN.out]; exact Nat.le_refl _, Below.refl _ _, fun t h => absurd h (Nat.not_lt_zero _), fun t h1 h2 => by rw [HN.out] at h2; omega⟩
  case round =>
    obtain ⟨lo, hi, rfl, rfl, hlh, hin, hbel, hlo, hhi⟩ := hrel
    rw [HN.out] at hin
    by_cases hlt : lo < hi
    · have hm : (lo + hi) / 2 < l.length := by rw [HN.out]; omega
      obtain ⟨b, off, rfl, hb, hc1⟩ := (HX.out.on hbel).at_ (ns_get l ((lo + hi) / 2) hm)
      have hy := HLe.out _ (at_mem l _ hm)
      have HI := Lib.hid (And.intro hlo hhi); have HB := Lib.hid hbel
      clear hlo hhi hbel
      by_cases hyx : ((l[(lo + hi) / 2]?.getD 0 : Nat) : Int) < x
      · have HS : Hid (∀ t, t < (lo + hi) / 2 + 1 → ((l[t]?.getD 0 : Nat) : Int) < x) := fun t ht => by
          by_cases e : t = (lo + hi) / 2
          · rw [e]; exact hyx
          · have := HP.out t ((lo + hi) / 2) (by omega) hm; omega
        generalize l[(lo + hi) / 2]?.getD 0 = y at *
        go_wp2_with (go_at_call 211; refine (less_any _ _ _).mono ?_; rintro e w' ⟨rfl, rfl⟩)
        go_roundw
        case rel => exact ⟨(lo + hi) / 2 + 1, hi, by rw [show ((lo : Int) + (hi : Int)) / 2 + 1 = (((lo + hi) / 2 + 1 : Nat) : Int) by omega], rfl, by omega, by rw [HN.out]; exact hin, by first | exact HB.out | exact HB.out.drew | exact below_drewN HB.out _, HS.out, HI.out.2⟩
        case measure => simp [intOf]; omega
      · have HS : Hid (∀ t, (lo + hi) / 2 ≤ t → t < l.length → x ≤ ((l[t]?.getD 0 : Nat) : Int)) := fun t ht htn => by
          by_cases e : t = (lo + hi) / 2
          · rw [e]; omega
          · have := HP.out ((lo + hi) / 2) t (by omega) htn; omega
        generalize l[(lo + hi) / 2]?.getD 0 = y at *
        go_wp2_with (go_at_call 211; refine (less_any _ _ _).mono ?_; rintro e w' ⟨rfl, rfl⟩)
        go_roundw
        case rel => exact ⟨lo, (lo + hi) / 2, rfl, by rw [show ((lo : Int) + (hi : Int)) / 2 = (((lo + hi) / 2 : Nat) : Int) by omega], by omega, by rw [HN.out]; omega, by first | exact HB.out | exact HB.out.drew | exact below_drewN HB.out _, HI.out.1, HS.out⟩
        case measure => simp [intOf]; omega
    · obtain rfl : hi = lo := by omega
      by_cases hl : hi < n
      · have hm : hi < l.length := by rw [HN.out]; exact hl
        obtain ⟨b, off, rfl, hb, hc1⟩ := (HX.out.on hbel).at_ (ns_get l hi hm)
        have hmem := at_mem l hi hm
        have hy := HLe.out _ hmem
        have HB := Lib.hid hbel
        have HA := Lib.hid hlo
        have HC := Lib.hid hhi
        clear hlo hhi hbel
        by_cases hyx : ((l[hi]?.getD 0 : Nat) : Int) = x
        · have HR : Hid (decide (x ∈ ns l) = true) := by
            show _ = _
            rw [decide_eq_true_eq, ← hyx]
            exact List.mem_map.2 ⟨_, hmem, rfl⟩
          generalize l[hi]?.getD 0 = y at *
          have te : ((y : Int) == x) = true := by simpa using hyx
          clear hmem
          go_wp2_with (go_at_call 262; refine (snan_any _ _).mono ?_; rintro e w' ⟨rfl, rfl⟩)
          go_ret2
          exact ⟨⟨_, by rw [HR.out]; first | rfl | simp [*]⟩, by first | exact HB.out | exact HB.out.drew | exact below_drewN HB.out _⟩
        · have HR : Hid (decide (x ∈ ns l) = false) := by
            show _ = _
            rw [decide_eq_false_iff_not]
            intro hx
            obtain ⟨z, hz, rfl⟩ := List.mem_map.1 hx
            obtain ⟨i, hi2, rfl⟩ := List.getElem_of_mem hz
            have e : l[i]?.getD 0 = l[i] := by rw [List.getElem?_eq_getElem hi2]; rfl
            by_cases h1 : i < hi
            · have := HA.out i h1; rw [e] at this; omega
            · have := HC.out hi (Nat.le_refl _) hm
              by_cases h2 : i = hi
              · subst h2; rw [e] at hyx; exact hyx rfl
              · have := HP.out hi i (by omega) hi2; rw [e] at this; omega
          generalize l[hi]?.getD 0 = y at *
          have te : ((y : Int) == x) = false := by simpa using hyx
          clear hmem
          go_wp2_with (go_at_call 262; refine (snan_any _ _).mono ?_; rintro e w' ⟨rfl, rfl⟩)
          go_ret2
          exact ⟨⟨_, by rw [HR.out]; first | rfl | simp [*]⟩, by first | exact HB.out | exact HB.out.drew | exact below_drewN HB.out _⟩
      · have HB := Lib.hid hbel
        have HR : Hid (decide (x ∈ ns l) = false) := by
          show _ = _
          rw [decide_eq_false_iff_not]
          intro hx
          obtain ⟨z, hz, rfl⟩ := List.mem_map.1 hx
          obtain ⟨i, hi2, rfl⟩ := List.getElem_of_mem hz
          have e : l[i]?.getD 0 = l[i] := by rw [List.getElem?_eq_getElem hi2]; rfl
          have := hlo i (by rw [HN.out] at hi2; omega)
          rw [e] at this; omega
        clear hlo hhi hbel
        go_wp2_with (go_at_call 262; refine (snan_any _ _).mono ?_; rintro e w' ⟨rfl, rfl⟩)
        go_ret2
        exact ⟨⟨_, by rw [HR.out]; first | rfl | simp [*]⟩, by first | exact HB.out | exact HB.out.drew | exact below_drewN HB.out _⟩
set_option maxHeartbeats 400000 in
/-- The program's own question. -/
theorem pcont_any (l : List Nat) (hp : l.Pairwise (· < ·)) (hle : ∀ y ∈ l, y ≤ 1048576) (n : Nat) (hn : l.length = n) (hn2 : n ≤ 1000000) (x : Nat) (A : Option Addr) (c : Nat) (w : World) (h : RdV w w.heap.size A (zc (ns l))) :
    Calls Tryz.prog 218 #[.slice A n c, .int .i64 (x : Int)] w fun e w' => e = .returned (.bool (inL l x)) ∧ Below w.heap.size w w' := by
  have e : decide ((x : Int) ∈ ns l) = inL l x := by
    unfold inL; congr 1; apply propext
    constructor
    · intro h; obtain ⟨z, hz, e⟩ := List.mem_map.1 h
      have : z = x := by omega
      exact this ▸ hz
    · exact fun h => List.mem_map.2 ⟨x, h, rfl⟩
  have HF := Lib.hid (find_any l hp hle n hn hn2 (x : Int) A c w h)
  rw [e] at HF
  clear h hn
  go_enter Tryz.func218, Tryz.ntmps218
  go_wp2_with fail
  refine HF.out.mono ?_
  rintro e w' ⟨⟨i, rfl⟩, B1⟩
  have HB := Lib.hid B1; clear B1
  go_wp2
  go_ret
  exact ⟨rfl, HB.out⟩
end
section
set_option maxRecDepth 100000
set_option linter.unusedVariables false
open Go.RowKit Go.Shelf
set_option maxHeartbeats 400000 in
theorem copies_any (k : Nat) (hk : k ≤ 1000000) (w : World) : Calls Tryz.prog 191 #[.int .i64 (k : Int)] w fun e w' => e = .returned (.bool (decide (k % 2 = 0))) ∧ w = w' := by
  have h1 : IntKind.i64.wrap ((k : Int) % 2) = (k : Int) % 2 := IntWalk.i64_in _ (by omega)
  have h2 : ((k : Int) % 2 == 0) = decide (k % 2 = 0) := by
    by_cases h : k % 2 = 0
    · rw [decide_eq_true h]; simp; omega
    · rw [decide_eq_false h]; simp; omega
  have h3 : (k : Int).tmod 2 = (k : Int) % 2 := Int.tmod_eq_emod_of_nonneg (by omega)
  go_enter Tryz.func191, Tryz.ntmps191
  go_wp2
  go_ret
  exact ⟨by first | rfl | simp [h2] | simp [h3] | simp [h2, h3], rfl⟩
theorem bbad_step (f : Bool) (bs : List Int) (i : Nat) (h : i < bs.length) : bbad f (bs.drop i) = (decide (bs[i]?.getD 0 < 0 ∨ bs[i]?.getD 0 = 0 ∧ f = false) || bbad false (bs.drop (i + 1))) := by
  rw [drop_at bs i h]; rfl
theorem bfit_step (m : Int) (bs : List Int) (i : Nat) (h : i < bs.length) : bfit m (bs.drop i) = (decide (bs[i]?.getD 0 ≤ m) && bfit (m - bs[i]?.getD 0) (bs.drop (i + 1))) := by
  rw [drop_at bs i h]; rfl
def BbRel (bs : List Int) (w : World) (p : Value) (wr : World) : Prop :=
  ∃ i : Nat, i ≤ bs.length ∧ p = .int .i64 (i : Int) ∧ bbad true bs = bbad (decide (i = 0)) (bs.drop i) ∧ (∀ j, j < i → 0 ≤ bs[j]?.getD 0) ∧ Below w.heap.size w wr
def BfRel (bs : List Int) (m : Nat) (w : World) (s p : Value) (wr : World) : Prop :=
  ∃ (i k : Nat), i ≤ bs.length ∧ p = .int .i64 (i : Int) ∧ s = .int .i64 (k : Int) ∧ k ≤ m ∧ bfit m bs = bfit k (bs.drop i) ∧ Below w.heap.size w wr
theorem bbad_all (bs : List Int) (f : Bool) (h : bbad f bs = false) : ∀ j, j < bs.length → 0 ≤ bs[j]?.getD 0 := by
  obtain ⟨B, rfl, _⟩ := bbad_false bs f h
  intro j hj
  rw [ns_length] at hj
  rw [show (ns B)[j]?.getD 0 = ((B[j]?.getD 0 : Nat) : Int) from by simp [ns, List.getElem?_map, List.getElem?_eq_getElem hj]]
  omega
set_option maxHeartbeats 4000000 in
theorem cblk_any (bs : List Int) (n : Nat) (hn : bs.length = n) (hn2 : n ≤ 9223372036854775807) (m : Nat) (hm : m ≤ 1000000) (A : Option Addr) (c : Nat) (w : World) (h : RdV w w.heap.size A (zc bs)) :
    Calls Tryz.prog 190 #[.slice A n c, .int .i64 (m : Int)] w fun e w' => e = .returned (.int .i64 (bchk bs m)) ∧ Below w.heap.size w w' := by
  have a1 : IntKind.i64.wrap ((m : Int) + 1) = (m : Int) + 1 := IntWalk.i64_in _ (by omega)
  have HC : Hid (bchk bs m = if m + 1 < bs.length then 2 else if bbad true bs = true then 3 else if bfit m bs = true then 0 else 8) := rfl
  have HX := Lib.hid h; have HN := Lib.hid hn
  clear h hn
  rw [HN.out] at HC
  generalize bchk bs m = r at *
  by_cases h0 : m + 1 < n
  · rw [if_pos h0] at HC
    have t1 : decide ((n : Int) > (m : Int) + 1) = true := by simp; omega
    have t2 : decide ((m : Int) + 1 < (n : Int)) = true := by simp; omega
    have t3 : decide (m + 1 < n) = true := by simpa using h0
    have t4 : (m : Int) + 1 < (n : Int) := by omega
    go_enter Tryz.func190, Tryz.ntmps190
    go_wp2
    go_ret
    exact ⟨by rw [HC.out]; rfl, Below.refl _ _⟩
  · rw [if_neg h0] at HC
    have t1 : decide ((n : Int) > (m : Int) + 1) = false := by simp; omega
    have t2 : decide ((m : Int) + 1 < (n : Int)) = false := by simp; omega
    have t3 : decide (m + 1 < n) = false := by simpa using h0
    have t4 : ¬ (m : Int) + 1 < (n : Int) := by omega
    go_enter Tryz.func190, Tryz.ntmps190
    go_wp2
    go_loopw [16] (fun p wr => BbRel bs w p wr) (fun p _ => n - (intOf p).toNat)
    case atStart => exact ⟨0, Nat.zero_le _, rfl, rfl, fun j h => absurd h (Nat.not_lt_zero _), Below.refl _ _⟩
    case round =>
      obtain ⟨i, hi, rfl, hbb, hall, hbel⟩ := hrel
      rw [HN.out] at hi
      clear t1 t2 t3 t4 h0
      by_cases hlt : i < n
      · have hin : i < bs.length := by rw [HN.out]; exact hlt
        have hg : (zc bs)[i]? = some (.int .i64 (bs[i]?.getD 0)) := zc_get bs i hin
        obtain ⟨b, off, rfl, hb, hc1⟩ := (HX.out.on hbel).at_ hg
        have hst := bbad_step (decide (i = 0)) bs i hin
        have HB := Lib.hid hbel
        clear hbel hg
        have t1 : decide ((i : Int) < (n : Int)) = true := by simp; omega
        have t2 : decide (i < n) = true := by simpa using hlt
        have t3 : (0 : Int) ≤ (i : Int) := by omega
        have t4 : (i : Int) < (n : Int) := by omega
        generalize hx : bs[i]?.getD 0 = x at *
        by_cases hneg : x < 0
        · have HR : Hid (bbad true bs = true) := by
            show _ = _
            rw [hbb, hst, decide_eq_true (.inl hneg), Bool.true_or]
          rw [HR.out, if_pos rfl] at HC
          have q1 : decide (x < 0) = true := by simpa using hneg
          clear hbb hst hx hall
          go_wp2
          go_ret
          exact ⟨by rw [HC.out]; rfl, HB.out⟩
        · have q1 : decide (x < 0) = false := by simpa using hneg
          by_cases hz : x = 0
          · have q2 : (x == 0) = true := by simpa using hz
            by_cases h0 : i = 0
            · have q3 : decide ((i : Int) > 0) = false := by simp; omega
              have q4 : decide ((0 : Int) < (i : Int)) = false := by simp; omega
              have q5 : decide (0 < i) = false := by simp; omega
              have HS : Hid (bbad true bs = bbad (decide (i + 1 = 0)) (bs.drop (i + 1))) := by
                show _ = _
                rw [hbb, hst, h0]; simp [hz]
              have HA : Hid (∀ j, j < i + 1 → 0 ≤ bs[j]?.getD 0) := fun j hj => by
                by_cases e : j = i
                · rw [e, hx]; omega
                · exact hall j (by omega)
              clear hbb hst hx hall h0 hz
              go_wp2
              go_roundw
              case rel => exact ⟨i + 1, by rw [HN.out]; omega, by go_num, HS.out, HA.out, HB.out⟩
              case measure => simp [intOf]; omega
            · have HR : Hid (bbad true bs = true) := by
                show _ = _
                rw [hbb, hst, decide_eq_true (.inr ⟨hz, by simpa using h0⟩), Bool.true_or]
              rw [HR.out, if_pos rfl] at HC
              have q3 : decide ((i : Int) > 0) = true := by simp; omega
              have q4 : decide ((0 : Int) < (i : Int)) = true := by simp; omega
              have q5 : decide (0 < i) = true := by simp; omega
              clear hbb hst hx hall h0 hz
              go_wp2
              go_ret
              exact ⟨by rw [HC.out]; rfl, HB.out⟩
          · have q2 : (x == 0) = false := by simpa using hz
            have HS : Hid (bbad true bs = bbad (decide (i + 1 = 0)) (bs.drop (i + 1))) := by
              show _ = _
              rw [hbb, hst, decide_eq_false (by rintro (h | ⟨h, _⟩); exact hneg h; exact hz h)]; simp
            have HA : Hid (∀ j, j < i + 1 → 0 ≤ bs[j]?.getD 0) := fun j hj => by
              by_cases e : j = i
              · rw [e, hx]; omega
              · exact hall j (by omega)
            clear hbb hst hx hall hz
            go_wp2
            go_roundw
            case rel => exact ⟨i + 1, by rw [HN.out]; omega, by go_num, HS.out, HA.out, HB.out⟩
            case measure => simp [intOf]; omega
      · have e : i = bs.length := by rw [HN.out]; omega
        have HF : Hid (bbad true bs = false) := by
          show _ = _
          rw [hbb, e, List.drop_length]; rfl
        rw [HF.out, if_neg (by decide)] at HC
        have HB := Lib.hid hbel
        have hge := bbad_all bs true HF.out
        have HGe := Lib.hid hge
        clear hbb hall hbel e hge
        have t1 : decide ((i : Int) < (n : Int)) = false := by simp; omega
        have t2 : decide (i < n) = false := by simpa using hlt
        go_wp2
        go_loopw [1, 34] (fun s p wr => BfRel bs m w s p wr) (fun s p _ => n - (intOf p).toNat)
        case atStart => exact ⟨0, m, Nat.zero_le _, rfl, rfl, Nat.le_refl _, rfl, HB.out⟩
        case round =>
          obtain ⟨i, k, hi, rfl, rfl, hkm, hbf, hbel⟩ := hrel
          rw [HN.out] at hi
          clear t1 t2 hlt
          by_cases hlt : i < n
          · have hin : i < bs.length := by rw [HN.out]; exact hlt
            have hg : (zc bs)[i]? = some (.int .i64 (bs[i]?.getD 0)) := zc_get bs i hin
            obtain ⟨b, off, rfl, hb, hc1⟩ := (HX.out.on hbel).at_ hg
            have hst := bfit_step k bs i hin
            have hx0 := HGe.out i hin
            have HB := Lib.hid hbel
            clear hbel hg
            have t1 : decide ((i : Int) < (n : Int)) = true := by simp; omega
            have t2 : decide (i < n) = true := by simpa using hlt
            have t3 : (0 : Int) ≤ (i : Int) := by omega
            have t4 : (i : Int) < (n : Int) := by omega
            generalize hx : bs[i]?.getD 0 = x at *
            by_cases hgt : x > (k : Int)
            · have HR : Hid (bfit m bs = false) := by
                show _ = _
                rw [hbf, hst, decide_eq_false (by omega), Bool.false_and]
              rw [HR.out, if_neg (by decide)] at HC
              have q1 : decide (x > (k : Int)) = true := by simpa using hgt
              have q2 : decide ((k : Int) < x) = true := by simpa using hgt
              clear hbf hst hx
              go_wp2
              go_ret
              exact ⟨by rw [HC.out]; rfl, HB.out⟩
            · have q1 : decide (x > (k : Int)) = false := by simp; omega
              have q2 : decide ((k : Int) < x) = false := by simp; omega
              have q3 : IntKind.i64.wrap ((k : Int) - x) = (k : Int) - x := IntWalk.i64_in _ (by omega)
              have q5 : ¬ (k : Int) < x := by omega
              have HS : Hid (bfit m bs = bfit ((k - x.toNat : Nat) : Int) (bs.drop (i + 1))) := by
                show _ = _
                rw [hbf, hst, decide_eq_true (by omega), Bool.true_and]
                congr 1; omega
              clear hbf hst hx
              go_wp2
              go_roundw
              case rel => exact ⟨i + 1, k - x.toNat, by rw [HN.out]; omega, by go_num, by rw [show ((k - x.toNat : Nat) : Int) = (k : Int) - x by omega], by omega, HS.out, HB.out⟩
              case measure => simp [intOf]; omega
          · have e : i = bs.length := by rw [HN.out]; omega
            have HF : Hid (bfit m bs = true) := by
              show _ = _
              rw [hbf, e, List.drop_length]; rfl
            rw [HF.out, if_pos rfl] at HC
            have HB := Lib.hid hbel
            clear hbf hbel e
            have t1 : decide ((i : Int) < (n : Int)) = false := by simp; omega
            have t2 : decide (i < n) = false := by simpa using hlt
            go_wp2
            go_ret
            exact ⟨by rw [HC.out]; rfl, HB.out⟩
end
end
section
set_option maxRecDepth 100000
set_option linter.unusedVariables false
open Go.RowKit Go.Shelf
theorem of_drop {l : List Oper} {i : Nat} {oi : Oper} {rest : List Oper} (h : l.drop i = oi :: rest) : l.toArray[i]? = some oi := by
  rw [List.getElem?_toArray, ← List.head?_drop, h]; rfl
theorem held_val {P : Program} {md : Region.Mode} {l : List Oper} {Q : Exit → Act → World → Prop} {S : World → Prop} {i : Nat} {oi : Oper} {rest : List Oper} {fuel : Nat} {listed : Array Bool} {a : Act} {w : World} (hi : l.drop i = oi :: rest)
    (hs : Region.noSelect l.toArray = true) (hf : Region.free md l.toArray listed i = true) (hr : (Region.ready md l.toArray listed).contains i = true)
    (hQ : ∀ v c a w, Q (.panic c) (a.put oi.dst v) w → Q (.panic c) a w) (hS : S w) (hw : Region.wanted oi (yielded l.toArray a.tmps) = true)
    (h : ∃ v, (∀ w, S w → (execOp a.eval oi).run P w = .ok (.value v) w) ∧ wpAnyH P md l.toArray Q S fuel (listed.setIfInBounds i true) (a.put oi.dst v) w) : wpAnyH P md l.toArray Q S (fuel + 1) listed a w :=
  let ⟨v, h1, h2⟩ := h
  wpAnyH_take (of_drop hi) hs hf hr (hQ v) (.inl ⟨hw, h1⟩) hS h2
theorem held_skip {P : Program} {md : Region.Mode} {l : List Oper} {Q : Exit → Act → World → Prop} {S : World → Prop} {i : Nat} {oi : Oper} {rest : List Oper} {fuel : Nat} {listed : Array Bool} {a : Act} {w : World} (hi : l.drop i = oi :: rest)
    (hs : Region.noSelect l.toArray = true) (hf : Region.free md l.toArray listed i = true) (hr : (Region.ready md l.toArray listed).contains i = true)
    (hQ : ∀ v c a w, Q (.panic c) (a.put oi.dst v) w → Q (.panic c) a w) (hS : S w) (hw : Region.wanted oi (yielded l.toArray a.tmps) = false)
    (h : wpAnyH P md l.toArray Q S fuel (listed.setIfInBounds i true) (a.put oi.dst undef) w) : wpAnyH P md l.toArray Q S (fuel + 1) listed a w :=
  wpAnyH_take (of_drop hi) hs hf hr (hQ undef) (.inr ⟨hw, rfl⟩) hS h
def hck (b s k : Int) : Int := rgE 0 [decide (0 ≤ b), decide (b ≤ 7), (decide (s = 0) || okL s), okK k]
theorem hck_zero (b s k : Int) (h : hck b s k = 0) : (0 ≤ b ∧ b ≤ 7) ∧ (s = 0 ∨ 2 ≤ s ∧ s ≤ 300) ∧ (1 ≤ k ∧ k ≤ 16) := by
  unfold hck rgE at h
  split at h
  · omega
  · rename_i h1
    simp only [true_and, Bool.not_eq_true] at h1
    have h2 : ∀ x ∈ [decide (0 ≤ b), decide (b ≤ 7), (decide (s = 0) || okL s), okK k], x = true := by
      intro x hx
      cases x with
      | true => rfl
      | false =>
        have : [decide (0 ≤ b), decide (b ≤ 7), (decide (s = 0) || okL s), okK k].contains false = true := by
          rw [List.contains_iff_mem]; exact hx
        rw [this] at h1; cases h1
    have a1 := h2 _ (by simp : decide (0 ≤ b) ∈ _)
    have a2 := h2 _ (by simp : decide (b ≤ 7) ∈ [decide (0 ≤ b), decide (b ≤ 7), (decide (s = 0) || okL s), okK k])
    have a3 := h2 _ (by simp : (decide (s = 0) || okL s) ∈ [decide (0 ≤ b), decide (b ≤ 7), (decide (s = 0) || okL s), okK k])
    have a4 := h2 _ (by simp : okK k ∈ [decide (0 ≤ b), decide (b ≤ 7), (decide (s = 0) || okL s), okK k])
    obtain ⟨n, hn, hn1, hn2⟩ := okK_true a4
    refine ⟨⟨by simpa using a1, by simpa using a2⟩, ?_, by omega⟩
    rw [Bool.or_eq_true] at a3
    rcases a3 with h | h
    · left; simpa using h
    · right; unfold okL at h; simpa using h
theorem hck_ok (b s k : Nat) (h1 : b ≤ 7) (h2 : s = 0 ∨ 2 ≤ s ∧ s ≤ 300) (h3 : 1 ≤ k) (h4 : k ≤ 16) : hck (b : Int) (s : Int) (k : Int) = 0 := by
  have a1 : decide ((0 : Int) ≤ (b : Int)) = true := by simp
  have a2 : decide ((b : Int) ≤ 7) = true := by simp; omega
  have a3 : (decide ((s : Int) = 0) || okL (s : Int)) = true := by
    rw [Bool.or_eq_true]
    rcases h2 with h | h
    · left; simp; omega
    · right; unfold okL; simp; omega
  unfold hck
  rw [a1, a2, a3, okK_nat k h3 h4]; rfl
set_option maxHeartbeats 8000000 in
theorem scheck_any (b s k : Int) (w : World) : Calls Tryz.prog 18 #[.agg #[.int .i64 b, .int .i64 s, .int .i64 k]] w fun e w' => e = .returned (.int .i64 (hck b s k)) ∧ Below w.heap.size w w' := by
  have HKK := Lib.hid (isK_any k)
  have HLL := Lib.hid (atleast_any s)
  have HR := Lib.hid (range4 0 (decide (0 ≤ b)) (decide (b ≤ 7)) (decide (s = 0) || okL s) (okK k) (hck b s k) rfl)
  generalize hck b s k = r at *
  generalize okK k = ok at *
  obtain ⟨V0, hV⟩ : ∃ V0, w.alloc (.cells #[.int .i64 b, .int .i64 s, .int .i64 k] 24) = V0 := ⟨_, rfl⟩
  have HV : Hid (Below w.heap.size w V0) := hV ▸ one_below w _
  have HBx : Hid (V0.heap[w.heap.size]? = some (.cells #[.int .i64 b, .int .i64 s, .int .i64 k] 24 (0, 0))) := hV ▸ World.alloc_heap_new w _
  have hz : w.heap.size < V0.heap.size := (Array.getElem?_eq_some_iff.1 HBx.out).1
  have k0 : V0.cell? ⟨w.heap.size, 0, none⟩ = some (.int .i64 b) := (cell_at HBx.out _).trans rfl
  have k1 : V0.cell? ⟨w.heap.size, 1, none⟩ = some (.int .i64 s) := (cell_at HBx.out _).trans rfl
  have k2 : V0.cell? ⟨w.heap.size, 2, none⟩ = some (.int .i64 k) := (cell_at HBx.out _).trans rfl
  have HKe : Hid (∀ V, Below V0.heap.size V0 V → V.cell? ⟨w.heap.size, 0, none⟩ = some (.int .i64 b) ∧ V.cell? ⟨w.heap.size, 1, none⟩ = some (.int .i64 s) ∧ V.cell? ⟨w.heap.size, 2, none⟩ = some (.int .i64 k)) := fun V hV => ⟨(hV.cell (p := ⟨w.heap.size, 0, none⟩) hz).trans k0, (hV.cell (p := ⟨w.heap.size, 1, none⟩) hz).trans k1, (hV.cell (p := ⟨w.heap.size, 2, none⟩) hz).trans k2⟩
  by_cases h0 : s = 0
  · have t0 : (s == 0) = true := by simpa using h0
    rw [decide_eq_true h0, Bool.true_or] at HR
    clear h0
    go_enter Tryz.func18, Tryz.ntmps18
    go_wp2_with fail
    refine wp_region_held_drew (S := fun w' => w'.cell? ⟨w.heap.size, 0, none⟩ = some (.int .i64 b) ∧ w'.cell? ⟨w.heap.size, 1, none⟩ = some (.int .i64 s) ∧ w'.cell? ⟨w.heap.size, 2, none⟩ = some (.int .i64 k)) (by kernel_rfl) (HKe.out _ (Below.refl _ _).drew) (fun hHeld => ?_)
    (refine held_val (i := 0) rfl (by kernel_rfl) (by kernel_rfl) (by kernel_rfl) (fun _ _ _ _ h => h) hHeld (by rfl) ?_; apply Exists.intro; refine ⟨fun wq hSw => ?_, ?_⟩; ((try dsimp only at hSw); obtain ⟨k1, k2, k3⟩ := hSw; go_simp; try rfl); try simp only [Act.put, List.setIfInBounds_toArray, List.set_cons_zero, List.set_cons_succ])
    (refine held_val (i := 1) rfl (by kernel_rfl) (by kernel_rfl) (by kernel_rfl) (fun _ _ _ _ h => h) hHeld (by rfl) ?_; apply Exists.intro; refine ⟨fun wq hSw => ?_, ?_⟩; ((try dsimp only at hSw); obtain ⟨k1, k2, k3⟩ := hSw; go_simp; try rfl); try simp only [Act.put, List.setIfInBounds_toArray, List.set_cons_zero, List.set_cons_succ])
    (refine held_val (i := 2) rfl (by kernel_rfl) (by kernel_rfl) (by kernel_rfl) (fun _ _ _ _ h => h) hHeld (by rfl) ?_; apply Exists.intro; refine ⟨fun wq hSw => ?_, ?_⟩; ((try dsimp only at hSw); obtain ⟨k1, k2, k3⟩ := hSw; go_simp; try rfl); try simp only [Act.put, List.setIfInBounds_toArray, List.set_cons_zero, List.set_cons_succ])
    (refine held_val (i := 3) rfl (by kernel_rfl) (by kernel_rfl) (by kernel_rfl) (fun _ _ _ _ h => h) hHeld (by rfl) ?_; apply Exists.intro; refine ⟨fun wq hSw => ?_, ?_⟩; ((try dsimp only at hSw); obtain ⟨k1, k2, k3⟩ := hSw; go_simp; try rfl); try simp only [Act.put, List.setIfInBounds_toArray, List.set_cons_zero, List.set_cons_succ])
    (refine held_val (i := 4) rfl (by kernel_rfl) (by kernel_rfl) (by kernel_rfl) (fun _ _ _ _ h => h) hHeld (by rfl) ?_; apply Exists.intro; refine ⟨fun wq hSw => ?_, ?_⟩; ((try dsimp only at hSw); obtain ⟨k1, k2, k3⟩ := hSw; go_simp; try rfl); try simp only [Act.put, List.setIfInBounds_toArray, List.set_cons_zero, List.set_cons_succ])
    (refine held_val (i := 5) rfl (by kernel_rfl) (by kernel_rfl) (by kernel_rfl) (fun _ _ _ _ h => h) hHeld (by rfl) ?_; apply Exists.intro; refine ⟨fun wq hSw => ?_, ?_⟩; ((try dsimp only at hSw); obtain ⟨k1, k2, k3⟩ := hSw; go_simp; try rfl); try simp only [Act.put, List.setIfInBounds_toArray, List.set_cons_zero, List.set_cons_succ])
    (refine held_val (i := 6) rfl (by kernel_rfl) (by kernel_rfl) (by kernel_rfl) (fun _ _ _ _ h => h) hHeld (by rfl) ?_; apply Exists.intro; refine ⟨fun wq hSw => ?_, ?_⟩; ((try dsimp only at hSw); obtain ⟨k1, k2, k3⟩ := hSw; go_simp; try rfl); try simp only [Act.put, List.setIfInBounds_toArray, List.set_cons_zero, List.set_cons_succ])
    (refine held_val (i := 7) rfl (by kernel_rfl) (by kernel_rfl) (by kernel_rfl) (fun _ _ _ _ h => h) hHeld (by rfl) ?_; apply Exists.intro; refine ⟨fun wq hSw => ?_, ?_⟩; ((try dsimp only at hSw); obtain ⟨k1, k2, k3⟩ := hSw; go_simp; try rfl); try simp only [Act.put, List.setIfInBounds_toArray, List.set_cons_zero, List.set_cons_succ])
    (refine held_val (i := 8) rfl (by kernel_rfl) (by kernel_rfl) (by kernel_rfl) (fun _ _ _ _ h => h) hHeld (by rfl) ?_; apply Exists.intro; refine ⟨fun wq hSw => ?_, ?_⟩; ((try dsimp only at hSw); obtain ⟨k1, k2, k3⟩ := hSw; go_simp; try rfl); try simp only [Act.put, List.setIfInBounds_toArray, List.set_cons_zero, List.set_cons_succ])
    (refine held_val (i := 9) rfl (by kernel_rfl) (by kernel_rfl) (by kernel_rfl) (fun _ _ _ _ h => h) hHeld (by rfl) ?_; apply Exists.intro; refine ⟨fun wq hSw => ?_, ?_⟩; ((try dsimp only at hSw); obtain ⟨k1, k2, k3⟩ := hSw; go_simp; try rfl); try simp only [Act.put, List.setIfInBounds_toArray, List.set_cons_zero, List.set_cons_succ])
    (refine held_skip (i := 10) rfl (by kernel_rfl) (by kernel_rfl) (by kernel_rfl) (fun _ _ _ _ h => h) hHeld (by rfl) ?_; try simp only [Act.put, List.setIfInBounds_toArray, List.set_cons_zero, List.set_cons_succ])
    (refine held_skip (i := 11) rfl (by kernel_rfl) (by kernel_rfl) (by kernel_rfl) (fun _ _ _ _ h => h) hHeld (by rfl) ?_; try simp only [Act.put, List.setIfInBounds_toArray, List.set_cons_zero, List.set_cons_succ])
    (refine held_skip (i := 12) rfl (by kernel_rfl) (by kernel_rfl) (by kernel_rfl) (fun _ _ _ _ h => h) hHeld (by rfl) ?_; try simp only [Act.put, List.setIfInBounds_toArray, List.set_cons_zero, List.set_cons_succ])
    (refine held_val (i := 13) rfl (by kernel_rfl) (by kernel_rfl) (by kernel_rfl) (fun _ _ _ _ h => h) hHeld (by rfl) ?_; apply Exists.intro; refine ⟨fun wq hSw => ?_, ?_⟩; ((try dsimp only at hSw); obtain ⟨k1, k2, k3⟩ := hSw; go_simp; try rfl); try simp only [Act.put, List.setIfInBounds_toArray, List.set_cons_zero, List.set_cons_succ])
    (refine held_val (i := 14) rfl (by kernel_rfl) (by kernel_rfl) (by kernel_rfl) (fun _ _ _ _ h => h) hHeld (by rfl) ?_; apply Exists.intro; refine ⟨fun wq hSw => ?_, ?_⟩; ((try dsimp only at hSw); obtain ⟨k1, k2, k3⟩ := hSw; go_simp; try rfl); try simp only [Act.put, List.setIfInBounds_toArray, List.set_cons_zero, List.set_cons_succ])
    (refine held_val (i := 15) rfl (by kernel_rfl) (by kernel_rfl) (by kernel_rfl) (fun _ _ _ _ h => h) hHeld (by rfl) ?_; apply Exists.intro; refine ⟨fun wq hSw => ?_, ?_⟩; ((try dsimp only at hSw); obtain ⟨k1, k2, k3⟩ := hSw; go_simp; try rfl); try simp only [Act.put, List.setIfInBounds_toArray, List.set_cons_zero, List.set_cons_succ])
    refine wpAnyH_ready (rs := [16]) (by kernel_rfl) (by simp) ?_
    refine AllReadyH.cons (of_drop rfl) (fun K hK => ?_) AllReadyH.nil
    go_simp
    (refine (HKK.out _).mono ?_; rintro e w' ⟨rfl, rfl⟩)
    go_wp2_with fail
    refine hK.out _ _ (HKe.out _ (Below.refl _ _).drew) (fun hHeld => ?_)
    clear hK K
    try simp only [Act.put, List.setIfInBounds_toArray, List.set_cons_zero, List.set_cons_succ]
    refine wpAnyH_ready (rs := [17]) (by kernel_rfl) (by simp) ?_
    refine AllReadyH.cons (of_drop rfl) (fun K hK => ?_) AllReadyH.nil
    go_simp
    refine hK.out _ _ (HKe.out _ ((Below.refl _ _).drew.trans (one_below V0.drew _))) (fun hHeld => ?_)
    clear hK K
    try simp only [Act.put, List.setIfInBounds_toArray, List.set_cons_zero, List.set_cons_succ]
    refine wpAnyH_ready (rs := [18]) (by kernel_rfl) (by simp) ?_
    refine AllReadyH.cons (of_drop rfl) (fun K hK => ?_) AllReadyH.nil
    go_simp
    (go_at_call 48; refine (HR.out V0.drew _ rfl).mono ?_; rintro e w2 ⟨rfl, B2⟩; have hk2 : Hid (Below V0.heap.size V0 w2) := ((Below.refl _ V0).drew).trans B2; clear B2)
    go_wp2_with fail
    refine hK.out _ _ (HKe.out _ hk2.out) (fun hHeld => ?_)
    clear hK K
    try simp only [Act.put, List.setIfInBounds_toArray, List.set_cons_zero, List.set_cons_succ]
    (refine held_val (i := 19) rfl (by kernel_rfl) (by kernel_rfl) (by kernel_rfl) (fun _ _ _ _ h => h) hHeld (by rfl) ?_; apply Exists.intro; refine ⟨fun wq hSw => ?_, ?_⟩; ((try dsimp only at hSw); obtain ⟨k1, k2, k3⟩ := hSw; go_simp; try rfl); try simp only [Act.put, List.setIfInBounds_toArray, List.set_cons_zero, List.set_cons_succ])
    refine wpAnyH_done (by kernel_rfl) ?_ _
    go_wp2
    go_ret
    exact ⟨rfl, HV.out.trans (hk2.out.mono HV.out.size)⟩
  · have t0 : (s == 0) = false := by simpa using h0
    rw [decide_eq_false h0, Bool.false_or] at HR
    generalize okL s = sl at *
    clear h0
    go_enter Tryz.func18, Tryz.ntmps18
    go_wp2_with fail
    go_region_held3 (fun w' => w'.cell? ⟨w.heap.size, 0, none⟩ = some (.int .i64 b) ∧ w'.cell? ⟨w.heap.size, 1, none⟩ = some (.int .i64 s) ∧ w'.cell? ⟨w.heap.size, 2, none⟩ = some (.int .i64 k))
      ((refine HKe.out _ ?_; first | exact hk2.out | exact (Below.refl _ V0).drew.trans (one_below V0.drew _) | exact (Below.refl _ V0).drew | exact Below.refl _ _))
      (first
        | (go_at_call 48; refine (HR.out V0.drew _ rfl).mono ?_; rintro e w2 ⟨rfl, B2⟩; have hk2 : Hid (Below V0.heap.size V0 w2) := ((Below.refl _ V0).drew).trans B2; clear B2)
        | (go_at_call 63; refine (HKK.out _).mono ?_; rintro e w' ⟨rfl, rfl⟩)
        | (go_at_call 62; refine (HLL.out _).mono ?_; rintro e w' ⟨rfl, rfl⟩))
    all_goals (
      go_wp2
      go_ret
      exact ⟨rfl, HV.out.trans (hk2.out.mono HV.out.size)⟩)
set_option maxHeartbeats 1000000 in
theorem cref_any (b s k : Int) (ys : List Int) (n : Nat) (hn : ys.length = n) (hn2 : n ≤ 9223372036854775807) (A : Option Addr) (c : Nat) (w : World) (h : RdV w w.heap.size A (zc ys)) :
    Calls Tryz.prog 51 #[.slice A n c, .agg #[.int .i64 b, .int .i64 s, .int .i64 k]] w fun e w' => e = .returned (.int .i64 (if b = 0 then 0 else rchk ys)) ∧ Below w.heap.size w w' := by
  have hB := one_below w (.cells #[.int .i64 b, .int .i64 s, .int .i64 k] 24)
  have HB := Lib.hid hB
  by_cases h0 : b = 0
  · have t0 : (b == 0) = true := by simpa using h0
    rw [if_pos h0]
    clear h hn h0 hB
    go_enter Tryz.func51, Tryz.ntmps51
    go_wp2
    go_ret
    exact ⟨rfl, HB.out⟩
  · have t0 : (b == 0) = false := by simpa using h0
    rw [if_neg h0]
    have HC := Lib.hid (gcheck_any ys n hn hn2 A c _ (h.on hB))
    clear h hn h0 hB
    go_enter Tryz.func51, Tryz.ntmps51
    go_wp2_with fail
    refine HC.out.mono ?_
    rintro e w2 ⟨rfl, B2⟩
    have HB2 := Lib.hid (HB.out.trans (B2.mono HB.out.size))
    clear B2
    go_wp2
    go_ret
    exact ⟨rfl, HB2.out⟩
end
end Go.Proofs.YtbddcokjkdoaaaaGreat
