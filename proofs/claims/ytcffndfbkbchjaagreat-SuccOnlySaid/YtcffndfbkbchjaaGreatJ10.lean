/- What gives up, and how: insist, insistOn; no condition. -/
import Derived.Test.YtcffndfbkbchjaaGreatNMem
import Derived.WalkLawsBesides
import Derived.Test.YtcffndfbkbchjaaGreatSPure
import Derived.Test.YtcffndfbkbchjaaGreatNWrite
import Derived.Deep.RegionWith
import Derived.Test.YtcffndfbkbchjaaGreatJ8
import Derived.Test.YtcffndfbkbchjaaGreatNFold
import Derived.Test.YtcffndfbkbchjaaGreatJ9
import Derived.Deep.RegionHeld3
namespace Go.Proofs.YtcffndfbkbchjaaGreat

section
set_option maxRecDepth 100000
set_option linter.unusedVariables false
open Go.RowKit Go.Shelf

/-- It gives up. -/
def Bad (e : Ending) : Prop := e = .panicked [{ v := .iface 23 (.int .i64 1), recovered := false }]
set_option maxHeartbeats 400000 in
theorem insist_t (w : World) : Calls Tryz.prog 86 #[.bool true] w fun e w' => e = .returned (.tuple #[]) ∧ w = w' := by
  go_enter Tryz.func86, Tryz.ntmps86
  go_wp2
  go_end0
  exact ⟨rfl, rfl⟩
set_option maxHeartbeats 400000 in
theorem insist_f (w : World) : Calls Tryz.prog 86 #[.bool false] w fun e w' => Bad e ∧ w = w' := by
  go_enter Tryz.func86, Tryz.ntmps86
  go_wp2
  exact ⟨rfl, rfl, rfl⟩
set_option maxHeartbeats 400000 in
theorem ion_t (w : World) : Calls Tryz.prog 121 #[.int .i64 0] w fun e w' => e = .returned (.tuple #[]) ∧ w = w' := by
  go_enter Tryz.func121, Tryz.ntmps121
  go_wp2_with fail
  refine (insist_t _).mono ?_
  rintro e w' ⟨rfl, rfl⟩
  go_wp2
  go_end0
  exact ⟨rfl, rfl⟩
set_option maxHeartbeats 400000 in
theorem ion_f (err : Int) (h : err ≠ 0) (w : World) : Calls Tryz.prog 121 #[.int .i64 err] w fun e w' => Bad e ∧ w = w' := by
  have t0 : (err == 0) = false := by simpa using h
  clear h
  go_enter Tryz.func121, Tryz.ntmps121
  go_wp2_with fail
  refine (insist_f _).mono ?_
  rintro e w' ⟨rfl, rfl⟩
  go_wp2
  exact ⟨rfl, rfl, rfl⟩
end

section
set_option maxRecDepth 100000
set_option linter.unusedVariables false
open Go.RowKit Go.Shelf

/-- A store to one cell of a writer leaves bytes as they were. -/
theorem Rd.set3 {w : World} {B K i : Nat} {A A' : Option Addr} {bs : List Nat} {a z : Int} {n c : Nat} {t : TypeId} (u : Value) (h : Rd w B A bs) (hK : w.heap[K]? = some (.cells #[.int .i64 a, .slice A' n c, .int .i64 z] t (0, 0))) : Rd (w.setCell ⟨K, i, none⟩ u) B A bs := by
  rcases h with h | ⟨b, off, rfl, hb, hc⟩
  · exact .inl h
  · by_cases h0 : bs = []
    · exact .inl h0
    · have hl : 0 < bs.length := List.length_pos_iff.2 h0
      have hne : b ≠ K := by
        rintro rfl
        have h1 := hc 0 hl
        simp only [World.cell?, hK] at h1
        rcases (show off = 0 ∨ off = 1 ∨ off = 2 ∨ 3 ≤ off by omega) with rfl | rfl | rfl | h2
        · simp at h1
        · simp at h1
        · simp at h1
        · rw [Array.getElem?_eq_none (by simp; omega)] at h1
          cases h1
      exact .inr ⟨b, off, rfl, hb, fun j hj => (World.cell?_setCell_other w _ ⟨b, off + j, none⟩ u (by intro e; exact hne (congrArg Addr.block e).symm)).trans (hc j hj)⟩
/-- A writer holds what was written, if it is not too much; else it has the error. -/
def WC (X : World) (P : Nat) (l : List Bool) : Prop :=
  ∃ (b : List Bool) (A : Option Addr) (c : Nat) (e : Int), X.heap[P]? = some (.cells #[.int .i64 (b.length : Int), .slice A (pack b).length c, .int .i64 e] 75 (0, 0)) ∧ Rd X X.heap.size A (pack b) ∧ ((l.length ≤ 8192 ∧ b = l ∧ e = 0) ∨ (8192 < l.length ∧ e = 8))
theorem WC.on {w V : World} {P : Nat} {l : List Bool} (h : WC w P l) (hb : Below w.heap.size w V) : WC V P l := by
  obtain ⟨b, A, c, e, h1, h2, h3⟩ := h
  exact ⟨b, A, c, e, (hb.block P (Array.getElem?_eq_some_iff.1 h1).1).trans h1, h2.on hb, h3⟩
/-- Bits and an error that were handed in, as they may be. -/
def Code (X : World) (L : List Bool) (len : Int) (A : Option Addr) (n c : Nat) (err : Int) : Prop :=
  (L.length ≤ 8192 ∧ len = (L.length : Int) ∧ n = (pack L).length ∧ Rd X X.heap.size A (pack L) ∧ err = 0) ∨ (8192 < L.length ∧ err = 8)
/-- All but one block is as it was. -/
def WB (P : Nat) (w w' : World) : Prop := w.grownBy w' (some P)
theorem wb_below {P : Nat} {w w' : World} (h : Below w.heap.size w w') : WB P w w' := grown_of_below h _
theorem WB.trans {P : Nat} {a b c : World} (h : WB P a b) (k : WB P b c) : WB P a c := grown_trans h k
theorem WB.low {P B : Nat} {w w' : World} (h : WB P w w') (hB : B ≤ P) (hs : P < w.heap.size) : Below B w w' :=
  ⟨h.os, h.tape, h.output, h.size, fun k hk => h.block k (by omega) (by simp; omega)⟩
theorem wb_set (w : World) (K i : Nat) (u : Value) : WB K w (w.setCell ⟨K, i, none⟩ u) := grown_set w K i u
def AddP (P : Nat) (w : World) (l : List Bool) (e : Ending) (w' : World) : Prop := e = .returned (.tuple #[]) ∧ WC w' P l ∧ WB P w w'
theorem heap_set3 (w : World) (K i : Nat) (u : Value) (cs : Array Value) (t : TypeId) (h : w.heap[K]? = some (.cells cs t (0, 0))) : (w.setCell ⟨K, i, none⟩ u).heap[K]? = some (.cells (cs.setIfInBounds i u) t (0, 0)) := heap_set_same _ _ _ _ _ _ h
theorem wc_store {w5 : World} {P : Nat} {A5 Ab : Option Addr} {c5 bn cb : Nat} {R l : List Bool} {eR bl z : Int} (hP : w5.heap[P]? = some (.cells #[.int .i64 bl, .slice Ab bn cb, .int .i64 z] 75 (0, 0))) (hR : Rd w5 w5.heap.size A5 (pack R)) (hc : (l.length ≤ 8192 ∧ R = l ∧ eR = 0) ∨ (8192 < l.length ∧ eR = 8)) :
    WC (((w5.setCell ⟨P, 0, none⟩ (.int .i64 (R.length : Int))).setCell ⟨P, 1, none⟩ (.slice A5 (pack R).length c5)).setCell ⟨P, 2, none⟩ (.int .i64 eR)) P l := by
  have h1 : (w5.setCell ⟨P, 0, none⟩ (.int .i64 (R.length : Int))).heap[P]? = some (.cells #[.int .i64 (R.length : Int), .slice Ab bn cb, .int .i64 z] 75 (0, 0)) := by rw [heap_set3 _ _ _ _ _ _ hP]; rfl
  have h2 : ((w5.setCell ⟨P, 0, none⟩ (.int .i64 (R.length : Int))).setCell ⟨P, 1, none⟩ (.slice A5 (pack R).length c5)).heap[P]? = some (.cells #[.int .i64 (R.length : Int), .slice A5 (pack R).length c5, .int .i64 z] 75 (0, 0)) := by rw [heap_set3 _ _ _ _ _ _ h1]; rfl
  refine ⟨R, A5, c5, eR, by rw [heap_set3 _ _ _ _ _ _ h2]; rfl, ?_, hc⟩
  have hsz : (((w5.setCell ⟨P, 0, none⟩ (.int .i64 (R.length : Int))).setCell ⟨P, 1, none⟩ (.slice A5 (pack R).length c5)).setCell ⟨P, 2, none⟩ (.int .i64 eR)).heap.size = w5.heap.size := by simp [World.setCell]
  rw [hsz]
  exact ((hR.set3 _ hP).set3 _ h1).set3 _ h2
theorem wc_err {w : World} {P : Nat} {b l : List Bool} {A : Option Addr} {c : Nat} {z : Int} (hP : w.heap[P]? = some (.cells #[.int .i64 (b.length : Int), .slice A (pack b).length c, .int .i64 z] 75 (0, 0))) (hR : Rd w w.heap.size A (pack b)) (hl : 8192 < l.length) : WC (w.setCell ⟨P, 2, none⟩ (.int .i64 8)) P l := by
  refine ⟨b, A, c, 8, by rw [heap_set3 _ _ _ _ _ _ hP]; rfl, ?_, .inr ⟨hl, rfl⟩⟩
  have hsz : (w.setCell ⟨P, 2, none⟩ (.int .i64 8)).heap.size = w.heap.size := by simp [World.setCell]
  rw [hsz]
  exact hR.set3 _ hP
set_option maxHeartbeats 8000000 in
theorem add_any (P : Nat) (l L : List Bool) (len : Int) (A : Option Addr) (n c : Nat) (err : Int) (w : World) (hW : WC w P l) (hC : Code w L len A n c err) :
    Calls Tryz.prog 115 #[.pointer (some ⟨P, 0, none⟩), .agg #[.int .i64 len, .slice A n c], .int .i64 err] w (AddP P w (l ++ L)) := by
  obtain ⟨b, Ab, cb, e, hP, hR, hcase⟩ := hW
  have hPs : P < w.heap.size := (Array.getElem?_eq_some_iff.1 hP).1
  obtain ⟨w0, hw0⟩ : ∃ w0, w.alloc (.cells #[.int .i64 len, .slice A n c] 35) = w0 := ⟨_, rfl⟩
  have hB0 : Below w.heap.size w w0 := hw0 ▸ one_below w _
  have hbox : w0.heap[w.heap.size]? = some (.cells #[.int .i64 len, .slice A n c] 35 (0, 0)) := hw0 ▸ World.alloc_heap_new w _
  have hP0 : w0.heap[P]? = some (.cells #[.int .i64 (b.length : Int), .slice Ab (pack b).length cb, .int .i64 e] 75 (0, 0)) := (hB0.block P hPs).trans hP
  have hR0 : Rd w0 w0.heap.size Ab (pack b) := hR.on hB0
  have k2 : w0.cell? ⟨P, 2, none⟩ = some (.int .i64 e) := (cell_at hP0 _).trans rfl
  have f2 := frz_at hP0 2
  rcases hcase with ⟨hl, rfl, rfl⟩ | ⟨hl, rfl⟩
  · by_cases hL : L.length ≤ 8192
    · have hcc : len = (L.length : Int) ∧ n = (pack L).length ∧ Rd w w.heap.size A (pack L) ∧ err = 0 := by
        rcases hC with ⟨_, a1, a2, a3, a4⟩ | ⟨h, _⟩
        · exact ⟨a1, a2, a3, a4⟩
        · omega
      obtain ⟨rfl, rfl, hRL, rfl⟩ := hcc
      have hRL0 := hRL.on hB0
      have k0 : w0.cell? ⟨P, 0, none⟩ = some (.int .i64 (b.length : Int)) := (cell_at hP0 _).trans rfl
      have k1 : w0.cell? ⟨P, 1, none⟩ = some (.slice Ab (pack b).length cb) := (cell_at hP0 _).trans rfl
      have m0 : w0.cell? ⟨w.heap.size, 0, none⟩ = some (.int .i64 (L.length : Int)) := (cell_at hbox _).trans rfl
      have m1 : w0.cell? ⟨w.heap.size, 1, none⟩ = some (.slice A (pack L).length c) := (cell_at hbox _).trans rfl
      obtain ⟨R, eR, hRe⟩ : ∃ (R : List Bool) (eR : Int), (b.length + L.length ≤ 8192 → R = b ++ L ∧ eR = 0) ∧ (8192 < b.length + L.length → R = [] ∧ eR = 8) := by
        by_cases h : b.length + L.length ≤ 8192
        · exact ⟨b ++ L, 0, fun _ => ⟨rfl, rfl⟩, fun h' => absurd h' (by omega)⟩
        · exact ⟨[], 8, fun h' => absurd h' h, fun _ => ⟨rfl, rfl⟩⟩
      have HJ : Hid (∀ V, Below w0.heap.size w0 V → Calls Tryz.prog 25 #[.agg #[.int .i64 (b.length : Int), .slice Ab (pack b).length cb], .agg #[.int .i64 (L.length : Int), .slice A (pack L).length c]] V (Gave V R eR)) := fun V hV => by
        by_cases h : b.length + L.length ≤ 8192
        · obtain ⟨rfl, rfl⟩ := hRe.1 h
          exact join_l b L _ Ab A cb c h rfl V (hR0.on hV) (hRL0.on hV)
        · obtain ⟨rfl, rfl⟩ := hRe.2 (by omega)
          exact join_l8 b L hl hL Ab A cb c (by omega) V (hR0.on hV) (hRL0.on hV)
      have HFin : Hid ((b.length + L.length ≤ 8192 ∧ R = b ++ L ∧ eR = 0) ∨ (8192 < b.length + L.length ∧ eR = 8)) := by
        by_cases h : b.length + L.length ≤ 8192
        · exact .inl ⟨h, hRe.1 h⟩
        · exact .inr ⟨by omega, (hRe.2 (by omega)).2⟩
      have HB0 := Lib.hid hB0; have HP0 := Lib.hid hP0
      have hPs0 : P < w0.heap.size := Nat.lt_of_lt_of_le hPs hB0.size
      have hlen : (b ++ L).length = b.length + L.length := List.length_append
      have HLn := Lib.hid hlen
      have HPs := Lib.hid hPs; have HPs0 := Lib.hid hPs0
      clear hR hR0 hRL hRL0 hP hP0 hbox hRe hl hL hC hlen
      generalize b.length = bl at *
      generalize (pack b).length = bn at *
      generalize L.length = Ll at *
      generalize (pack L).length = Ln at *
      have HJ' := HJ
      go_enter Tryz.func115, Tryz.ntmps115
      go_wp2_with fail
      go_region_with (go_at_call 25; refine (HJ.out w0.drew (Below.refl _ w0).drew).mono ?_; rintro e w5 ⟨A5, c5, rfl, r5, B5⟩; have hk1 : Hid (Below w0.heap.size w0 w5) := ((Below.refl _ w0).drew).trans B5; have hr5 := Lib.hid r5; have hp5 := (hk1.out.block P HPs0.out).trans HP0.out; have q0 : w5.cell? ⟨P, 0, none⟩ = some (.int .i64 (bl : Int)) := (cell_at hp5 _).trans rfl; have q1 : w5.cell? ⟨P, 1, none⟩ = some (.slice Ab bn cb) := (cell_at hp5 _).trans rfl; have q2 : w5.cell? ⟨P, 2, none⟩ = some (.int .i64 0) := (cell_at hp5 _).trans rfl; have g0 := frz_at hp5 0; have g1 := frz_at hp5 1; have g2 := frz_at hp5 2; have HP5 := Lib.hid hp5; clear B5 r5 hp5)
      all_goals (
        have HFw : Hid (AddP P w (b ++ L) (.returned (.tuple #[])) (((w5.setCell ⟨P, 0, none⟩ (.int .i64 (R.length : Int))).setCell ⟨P, 1, none⟩ (.slice A5 (pack R).length c5)).setCell ⟨P, 2, none⟩ (.int .i64 eR))) :=
          ⟨rfl, wc_store HP5.out hr5.out (by rw [HLn.out]; exact HFin.out), (wb_below (HB0.out.trans (hk1.out.mono HB0.out.size))).trans (((wb_set _ _ _ _).trans (wb_set _ _ _ _)).trans (wb_set _ _ _ _))⟩
        go_end0
        exact HFw.out)
    · have hcc : err = 8 := by
        rcases hC with ⟨h, _⟩ | ⟨_, h⟩
        · omega
        · exact h
      subst hcc
      have HFw : Hid (AddP P w (b ++ L) (.returned (.tuple #[])) (w0.setCell ⟨P, 2, none⟩ (.int .i64 8))) :=
        ⟨rfl, wc_err hP0 hR0 (by rw [List.length_append]; omega), (wb_below hB0).trans (wb_set _ _ _ _)⟩
      clear hR hR0 hP hP0 hbox hC hB0
      generalize b.length = bl at *
      generalize (pack b).length = bn at *
      go_enter Tryz.func115, Tryz.ntmps115
      go_wp2
      go_end0
      exact HFw.out
  · have HFw : Hid (AddP P w (l ++ L) (.returned (.tuple #[])) w0) :=
      ⟨rfl, ⟨b, Ab, cb, 8, hP0, hR0, .inr ⟨by rw [List.length_append]; omega, rfl⟩⟩, wb_below hB0⟩
    clear hR hR0 hP hP0 hbox hC hB0
    generalize b.length = bl at *
    generalize (pack b).length = bn at *
    go_enter Tryz.func115, Tryz.ntmps115
    go_wp2
    go_end0
    exact HFw.out
theorem gam_len40 (n : Nat) (h : n ≤ 1099511627776) : (gam n).length ≤ 8192 := by
  have h2 : (2 : Nat) ^ 41 = 2199023255552 := by decide
  have h1 : lg n < 41 := lg_lt_of n 41 (by omega)
  rw [gam_length]; omega
set_option maxHeartbeats 1000000 in
theorem addNumber_any (P : Nat) (l : List Bool) (k : Nat) (hk : k ≤ 1099511627776) (w : World) (hW : WC w P l) :
    Calls Tryz.prog 112 #[.pointer (some ⟨P, 0, none⟩), .int .i64 (k : Int)] w (AddP P w (l ++ gam k)) := by
  have HG := Lib.hid (gamma_ok k hk (gam k) rfl w)
  have HA : Hid (∀ len A n c V, Below w.heap.size w V → Code V (gam k) len A n c 0 → Calls Tryz.prog 115 #[.pointer (some ⟨P, 0, none⟩), .agg #[.int .i64 len, .slice A n c], .int .i64 0] V (AddP P V (l ++ gam k))) := fun len A n c V hV hc => add_any P l (gam k) len A n c 0 V (hW.on hV) hc
  have hg := gam_len40 k hk
  have HC : Hid (∀ A c V, Rd V V.heap.size A (pack (gam k)) → Code V (gam k) ((gam k).length : Int) A (pack (gam k)).length c 0) := fun A c V h => .inl ⟨hg, rfl, rfl, h, rfl⟩
  have c1 : IntKind.u64.wrap (k : Int) = (k : Int) := u64w _ (by omega) (by omega)
  clear hW hg
  generalize (gam k).length = gl at *
  generalize (pack (gam k)).length = gn at *
  go_enter Tryz.func112, Tryz.ntmps112
  go_wp2_with fail
  refine HG.out.mono ?_
  rintro e w1 ⟨A, c, rfl, r1, b1⟩
  have HB := Lib.hid b1
  have HCo := Lib.hid (HC.out A c w1 r1)
  clear r1 b1
  go_wp2_with fail
  refine (HA.out _ A _ c w1 HB.out HCo.out).mono ?_
  rintro e w2 ⟨rfl, hw, hb⟩
  have HW := Lib.hid hw; have HB2 := Lib.hid ((wb_below HB.out).trans hb)
  clear hw hb
  go_wp2
  go_end0
  exact ⟨rfl, HW.out, HB2.out⟩
end

section
set_option maxRecDepth 100000
set_option linter.unusedVariables false
open Go.RowKit Go.Shelf

/-- The reader's block: its bits, and where it is. -/
def RB (X : World) (Q : Nat) (L : List Bool) (A : Option Addr) (c s : Nat) : Prop :=
  X.heap[Q]? = some (.cells #[.int .i64 (L.length : Int), .slice A (pack L).length c, .int .i64 (s : Int)] 79 (0, 0))
theorem RB.lt {X : World} {Q : Nat} {L : List Bool} {A : Option Addr} {c s : Nat} (h : RB X Q L A c s) : Q < X.heap.size := (Array.getElem?_eq_some_iff.1 h).1
theorem RB.on {w V : World} {Q : Nat} {L : List Bool} {A : Option Addr} {c s : Nat} (h : RB w Q L A c s) (hb : Below w.heap.size w V) : RB V Q L A c s := (hb.block Q h.lt).trans h
theorem rd_low {w w' : World} {Q : Nat} {A : Option Addr} {bs : List Nat} (h : Rd w Q A bs) (hb : WB Q w w') (hQ : Q < w.heap.size) : Rd w' Q A bs := h.below (hb.low (Nat.le_refl _) hQ) (Nat.le_refl _)
/-- A number comes back, or the reader gives up. -/
def TkP (Q : Nat) (L : List Bool) (A : Option Addr) (c : Nat) (w : World) (o : Option (Nat × Nat)) (e : Ending) (w' : World) : Prop :=
  WB Q w w' ∧ match o with | none => Bad e | some (x, s) => e = .returned (.int .i64 (x : Int)) ∧ RB w' Q L A c s
set_option maxHeartbeats 4000000 in
theorem take_num (L : List Bool) (hL : L.length ≤ 8192) (A : Option Addr) (c Q s : Nat) (hs : s ≤ L.length) (most : Nat) (hm : most ≤ 2097152) (w : World) (hQ : RB w Q L A c s) (hR : Rd w Q A (pack L)) :
    Calls Tryz.prog 117 #[.pointer (some ⟨Q, 0, none⟩), .int .i64 (most : Int)] w (TkP Q L A c w (pnum L s most)) := by
  have hlt := hQ.lt
  have hRw : Rd w w.heap.size A (pack L) := hR.below (Below.refl _ _) (Nat.le_of_lt hlt)
  have HG : Hid (∀ V, Below w.heap.size w V → Calls Tryz.prog 156 #[.agg #[.int .i64 (L.length : Int), .slice A (pack L).length c], .int .i64 (s : Int)] V (ReadP V (gamR L s).1 (gamR L s).2.1 (gamR L s).2.2)) := fun V hV => rgamma_l L hL A c s hs V (hRw.on hV)
  have hbd := thenR_bound L (uR L s)
  have HP : Hid (pnum L s most = if (gamR L s).2.2 = 0 ∧ (gamR L s).1 ≤ most then some ((gamR L s).1, (gamR L s).2.1) else none) := rfl
  have hg : gamR L s = thenR L (uR L s) := rfl
  rw [← hg] at hbd
  generalize gamR L s = g at *
  obtain ⟨n, to, er⟩ := g
  dsimp only at HG HP hbd
  have HCk : Hid (∀ V, Below w.heap.size w V → V.cell? ⟨Q, 0, none⟩ = some (.int .i64 (L.length : Int)) ∧ V.cell? ⟨Q, 1, none⟩ = some (.slice A (pack L).length c) ∧ V.cell? ⟨Q, 2, none⟩ = some (.int .i64 (s : Int))) := fun V hV => by
    have h := hQ.on hV
    exact ⟨(cell_at h _).trans rfl, (cell_at h _).trans rfl, (cell_at h _).trans rfl⟩
  have HQ := Lib.hid hQ
  have hto := hbd.1
  have hn := hbd.2
  clear hQ hR hRw hbd hg hs
  generalize pnum L s most = o at *
  have c1 : IntKind.u64.wrap (most : Int) = (most : Int) := u64w _ (by omega) (by omega)
  have c2 : IntKind.i64.wrap (n : Int) = (n : Int) := IntWalk.i64_in _ (by omega)
  obtain ⟨k0, k1, k2⟩ := HCk.out w (Below.refl _ _)
  by_cases he : er = 0
  · subst he
    by_cases hle : n ≤ most
    · rw [if_pos ⟨rfl, hle⟩] at HP
      have t1 : decide ((n : Int) ≤ (most : Int)) = true := by simp; omega
      have t2 : decide (n ≤ most) = true := by simpa using hle
      clear hle
      go_enter Tryz.func117, Tryz.ntmps117
      go_wp2_with fail
      go_region_held3 (fun w' => w'.cell? ⟨Q, 0, none⟩ = some (.int .i64 (L.length : Int)) ∧ w'.cell? ⟨Q, 1, none⟩ = some (.slice A (pack L).length c) ∧ w'.cell? ⟨Q, 2, none⟩ = some (.int .i64 (s : Int)))
        ((refine HCk.out _ ?_; first | exact hk1.out | exact (Below.refl _ _).drew | exact Below.refl _ _))
        ((go_at_call 156; refine (HG.out w.drew (Below.refl _ _).drew).mono ?_; rintro e w1 ⟨rfl, B1⟩; have hk1 : Hid (Below w.heap.size w w1) := ((Below.refl _ w).drew).trans B1; clear B1))
      have HQ1 : Hid (RB w1 Q L A c s) := HQ.out.on hk1.out
      clear k0 k1 k2
      have j2 : w1.cell? ⟨Q, 2, none⟩ = some (.int .i64 (s : Int)) := (cell_at HQ1.out _).trans rfl
      have f2 := frz_at HQ1.out 2
      go_wp2_with fail
      refine (ion_t _).mono ?_
      rintro e w' ⟨rfl, rfl⟩
      go_wp2_with fail
      refine (insist_t _).mono ?_
      rintro e w' ⟨rfl, rfl⟩
      have HN : Hid (RB (w1.setCell ⟨Q, 2, none⟩ (.int .i64 (to : Int))) Q L A c to) := by
        show _ = _
        rw [heap_set3 _ _ _ _ _ _ HQ1.out]; rfl
      have HWB : Hid (WB Q w (w1.setCell ⟨Q, 2, none⟩ (.int .i64 (to : Int)))) := (wb_below hk1.out).trans (wb_set _ _ _ _)
      clear HQ1
      go_wp2
      go_ret
      exact ⟨HWB.out, by rw [HP.out]; exact ⟨rfl, HN.out⟩⟩
    · rw [if_neg (fun h => hle h.2)] at HP
      have t1 : decide ((n : Int) ≤ (most : Int)) = false := by simp; omega
      have t2 : decide (n ≤ most) = false := by simpa using hle
      clear hle
      go_enter Tryz.func117, Tryz.ntmps117
      go_wp2_with fail
      go_region_held3 (fun w' => w'.cell? ⟨Q, 0, none⟩ = some (.int .i64 (L.length : Int)) ∧ w'.cell? ⟨Q, 1, none⟩ = some (.slice A (pack L).length c) ∧ w'.cell? ⟨Q, 2, none⟩ = some (.int .i64 (s : Int)))
        ((refine HCk.out _ ?_; first | exact hk1.out | exact (Below.refl _ _).drew | exact Below.refl _ _))
        ((go_at_call 156; refine (HG.out w.drew (Below.refl _ _).drew).mono ?_; rintro e w1 ⟨rfl, B1⟩; have hk1 : Hid (Below w.heap.size w w1) := ((Below.refl _ w).drew).trans B1; clear B1))
      clear k0 k1 k2
      go_wp2_with fail
      refine (ion_t _).mono ?_
      rintro e w' ⟨rfl, rfl⟩
      go_wp2_with fail
      refine (insist_f _).mono ?_
      rintro e w' ⟨rfl, rfl⟩
      go_wp2
      exact ⟨rfl, wb_below hk1.out, by rw [HP.out]; rfl⟩
  · rw [if_neg (fun h => he h.1)] at HP
    go_enter Tryz.func117, Tryz.ntmps117
    go_wp2_with fail
    go_region_held3 (fun w' => w'.cell? ⟨Q, 0, none⟩ = some (.int .i64 (L.length : Int)) ∧ w'.cell? ⟨Q, 1, none⟩ = some (.slice A (pack L).length c) ∧ w'.cell? ⟨Q, 2, none⟩ = some (.int .i64 (s : Int)))
      ((refine HCk.out _ ?_; first | exact hk1.out | exact (Below.refl _ _).drew | exact Below.refl _ _))
      ((go_at_call 156; refine (HG.out w.drew (Below.refl _ _).drew).mono ?_; rintro e w1 ⟨rfl, B1⟩; have hk1 : Hid (Below w.heap.size w w1) := ((Below.refl _ w).drew).trans B1; clear B1))
    clear k0 k1 k2
    go_wp2_with fail
    refine (ion_f er he _).mono ?_
    rintro e w' ⟨rfl, rfl⟩
    go_wp2
    exact ⟨rfl, wb_below hk1.out, by rw [HP.out]; rfl⟩
end

section
set_option maxRecDepth 100000
set_option linter.unusedVariables false
open Go.RowKit Go.Shelf

set_option maxHeartbeats 400000 in
theorem lblock_any (i : Nat) (hi : i ≤ 1000000) (w : World) : Calls Tryz.prog 151 #[.int .i64 (i : Int)] w fun e w' => e = .returned (.int .i64 (if i = 0 then 0 else 1)) ∧ w = w' := by
  by_cases h : i = 0
  · subst h
    have t1 : min ((0 : Nat) : Int) 1 = 0 := by decide
    rw [if_pos rfl]
    go_enter Tryz.func151, Tryz.ntmps151
    go_wp2
    go_ret
    exact ⟨by first | rfl | simp, rfl⟩
  · have t1 : min ((i : Nat) : Int) 1 = 1 := by omega
    have t2 : decide ((i : Int) < 1) = false := by simp; omega
    have t3 : decide ((1 : Int) < (i : Int)) = decide (1 < i) := by congr 1; apply propext; omega
    have t4 : ¬ (i : Int) < 1 := by omega
    rw [if_neg h]
    go_enter Tryz.func151, Tryz.ntmps151
    go_wp2
    go_ret
    exact ⟨by first | rfl | simp [t1] | (simp; omega), rfl⟩
set_option maxHeartbeats 1000000 in
/-- The least number with which a further run begins. -/
theorem lfrom_any (r : List Ri) (n : Nat) (hn : r.length = n) (h1 : 1 ≤ n) (hn2 : n ≤ 1000000) (f m : Int) (hl : r[n - 1]?.getD (0, 0) = (f, m)) (hf : -9000000000000 ≤ f ∧ f ≤ 9000000000000) (hm : -9000000000000 ≤ m ∧ m ≤ 9000000000000) (A : Option Addr) (c : Nat) (w : World) (h : RdV w w.heap.size A (rcs r)) :
    Calls Tryz.prog 186 #[.slice A n c] w fun e w' => e = .returned (.int .i64 (f + m + 1)) ∧ Below w.heap.size w w' := by
  obtain ⟨r0, r1⟩ := rcs_at r (n - 1) (by omega)
  rw [hl] at r0 r1
  obtain ⟨b, off, rfl, hb, k0⟩ := h.at_ r0
  obtain ⟨b2, off2, hA2', hb2, k1⟩ := h.at_ r1
  simp only [Option.some.injEq, Addr.mk.injEq, and_true] at hA2'
  obtain ⟨rfl, rfl⟩ := hA2'
  rw [← Nat.add_assoc] at k1
  have t1 : IntKind.i64.wrap ((n : Int) - 1) = (n : Int) - 1 := IntWalk.i64_in _ (by omega)
  have t2 : (0 : Int) ≤ (n : Int) - 1 := by omega
  have t3 : (n : Int) - 1 < (n : Int) := by omega
  have t4 : ((n : Int) - 1).toNat = n - 1 := by omega
  have t5 : (1 : Int) ≤ (n : Int) := by omega
  have t6 : (n : Int) < (n : Int) + 1 := by omega
  have t7 : IntKind.i64.wrap (f + m) = f + m := IntWalk.i64_in _ (by omega)
  have t8 : IntKind.i64.wrap (f + m + 1) = f + m + 1 := IntWalk.i64_in _ (by omega)
  have hB := one_below w (.cells #[.int .i64 f, .int .i64 m] 134)
  have HB := Lib.hid hB
  clear h r0 r1 hl hn hB
  go_enter Tryz.func186, Tryz.ntmps186
  go_wp2
  go_ret
  exact ⟨rfl, HB.out⟩
end

section
set_option maxRecDepth 100000
set_option linter.unusedVariables false
open Go.RowKit Go.Shelf

theorem bnums_snoc (B : List Nat) (b : Nat) : bnums (B ++ [b]) = bnums B ++ [b - (if B.length = 0 then 0 else 1)] := by
  cases B with
  | nil => simp [bnums]
  | cons c t => simp [bnums]
theorem own_wb {w w' : World} {base P size n : Nat} {e : TypeId} {v : Value} {xs : List Value} (h : w.ownsRow base e size v n xs) (hb : WB P w w') (hP : P < base) : w'.ownsRow base e size v n xs := by
  refine h.kept hb ?_
  rcases h.2 with ⟨rfl, _⟩ | ⟨g, cap, cur, rfl, hg, _⟩
  · exact .inl rfl
  · refine .inr fun e' => ?_
    simp only [Value.ownBlock, Option.some.injEq] at e'
    omega
/-- A list of the call's own comes back, and the writer holds more. -/
def AddLP (P : Nat) (w : World) (L : List Bool) (r : List Nat) (e : Ending) (w' : World) : Prop :=
  (∃ A c, e = .returned (.slice A r.length c) ∧ w'.ownsRow w.heap.size 3 1 (.slice A r.length c) r.length (zc (ns r))) ∧ WC w' P L ∧ WB P w w'
theorem WC.lt {X : World} {P : Nat} {l : List Bool} (h : WC X P l) : P < X.heap.size := by
  obtain ⟨b, A, c, e, h1, _⟩ := h
  exact (Array.getElem?_eq_some_iff.1 h1).1
def AbRel (B R : List Nat) (l0 : List Bool) (P : Nat) (w : World) (vB vR : Value) (p : Value) (wr : World) : Prop :=
  ∃ i : Nat, i ≤ B.length ∧ p = .int .i64 (i : Int) ∧ WC wr P (l0 ++ gam B.length ++ gams (bnums (B.take i))) ∧ wr.ownsRow w.heap.size 3 1 vB B.length (zc (ns B)) ∧ wr.ownsRow w.heap.size 3 1 vR R.length (zc (ns R)) ∧ WB P w wr
set_option maxHeartbeats 4000000 in
theorem addBlocks_any (P : Nat) (l0 : List Bool) (F l : List Nat) (hF : Rising F) (hl : Rising l) (n m : Nat) (hn : F.length = n) (hm : l.length = m) (A1 A2 : Option Addr) (c1 c2 : Nat) (w : World) (hW : WC w P l0) (h1 : RdV w w.heap.size A1 (zc (ns F))) (h2 : RdV w w.heap.size A2 (zc (ns l))) :
    Calls Tryz.prog 113 #[.pointer (some ⟨P, 0, none⟩), .slice A1 n c1, .slice A2 m c2] w (AddLP P w (l0 ++ (gam (bks F l).length ++ gams (bnums (bks F l)))) (notin F l)) := by
  have HPB := Lib.hid (blocks_own F l hF hl n m hn hm _ _ rfl rfl A1 A2 c1 c2 w h1 h2)
  obtain ⟨q1, q2⟩ := bks_le F l hF.1
  have hpos := (bks_ok F l).2.1
  have hPw := hW.lt
  have HWC := Lib.hid hW
  generalize bks F l = B at *
  generalize notin F l = R at *
  have HLe := Lib.hid q2
  have HPos : Hid (∀ i, i < B.length → i ≠ 0 → 1 ≤ B[i]?.getD 0) := fun i hi h0 => hpos _ (by
    rw [List.getElem?_eq_getElem hi]
    exact List.mem_drop_iff_getElem.2 ⟨i - 1, by omega, by congr 1; omega⟩)
  clear hF hl hn hm h1 h2 hW q2 hpos
  go_enter Tryz.func113, Tryz.ntmps113
  go_wp2_with fail
  refine HPB.out.mono ?_
  rintro e w1 ⟨AB, cB, AR, cR, rfl, rB, rR, b1⟩
  have HAN := Lib.hid (addNumber_any P l0 B.length (by omega) w1 (HWC.out.on b1))
  have HrB := Lib.hid rB; have HrR := Lib.hid rR; have HB1 := Lib.hid b1
  clear rB rR b1
  go_wp2_with fail
  refine HAN.out.mono ?_
  rintro e w2 ⟨rfl, hw, hb⟩
  have HW2 := Lib.hid hw
  have HB2 : Hid (WB P w w2) := (wb_below HB1.out).trans hb
  have HrB2 := Lib.hid (own_wb HrB.out hb hPw)
  have HrR2 := Lib.hid (own_wb HrR.out hb hPw)
  clear hw hb HrB HrR HB1 HPB
  go_wp2
  go_loopw [25] (fun p wr => AbRel B R l0 P w (.slice AB B.length cB) (.slice AR R.length cR) p wr) (fun p _ => B.length - (intOf p).toNat)
  case atStart => exact ⟨0, Nat.zero_le _, rfl, by rw [List.take_zero]; simpa [bnums, gams] using HW2.out, HrB2.out, HrR2.out, HB2.out⟩
  case round =>
    obtain ⟨i, hi, rfl, hwc, hrB, hrR, hwb⟩ := hrel
    clear HWC HAN HW2 HB2 HrB2 HrR2
    by_cases hlt : i < B.length
    · obtain ⟨b, off, rfl, hb, hcx⟩ := (own_rdv hrB).at_ (ns_get B i hlt)
      have htk : bnums (B.take (i + 1)) = bnums (B.take i) ++ [B[i]?.getD 0 - (if i = 0 then 0 else 1)] := by
        rw [take_snocN B i hlt, bnums_snoc, List.length_take, Nat.min_eq_left (by omega)]
      have hle := HLe.out _ (at_mem B i hlt)
      have hps := HPos.out i hlt
      generalize B[i]?.getD 0 = x at *
      have HEq : Hid (l0 ++ gam B.length ++ gams (bnums (B.take (i + 1))) = (l0 ++ gam B.length ++ gams (bnums (B.take i))) ++ gam (x - (if i = 0 then 0 else 1))) := by
        show _ = _
        rw [htk, gams_append, gams_cons, gams_nil, List.append_nil, ← List.append_assoc]
      have hx2 : ((x : Int) - (if i = 0 then 0 else 1)) = ((x - (if i = 0 then 0 else 1) : Nat) : Int) := by split <;> omega
      have t1 : IntKind.i64.wrap ((x : Int) - (if i = 0 then 0 else 1)) = ((x - (if i = 0 then 0 else 1) : Nat) : Int) := by rw [hx2]; exact IntWalk.i64_in _ (by omega)
      have HLb := Lib.hid (lblock_any i (by omega) wr)
      have HAd := Lib.hid (addNumber_any P (l0 ++ gam B.length ++ gams (bnums (B.take i))) (x - (if i = 0 then 0 else 1)) (by omega) wr hwc)
      have HrB := Lib.hid hrB; have HrR := Lib.hid hrR; have HWB := Lib.hid hwb
      clear hwc hrB hrR hwb htk hps
      generalize hy : (x - (if i = 0 then 0 else 1) : Nat) = y at *
      have hy2 : y ≤ 300 := by rw [← hy]; split <;> omega
      have t4 : wrap64 (y : Int) = (y : Int) := by unfold wrap64; omega
      have hlb : ∃ z : Int, (if i = 0 then (0 : Int) else 1) = z ∧ (x : Int) - z = (y : Int) := ⟨_, rfl, hx2⟩
      obtain ⟨z, hz, t3⟩ := hlb
      rw [hz] at HLb
      clear t1 hx2 hz hy
      go_wp2_with fail
      refine HLb.out.mono ?_
      rintro e w' ⟨rfl, rfl⟩
      go_wp2_with fail
      refine HAd.out.mono ?_
      rintro e w3 ⟨rfl, hw, hb3⟩
      have HW3 : Hid (WC w3 P (l0 ++ gam B.length ++ gams (bnums (B.take (i + 1))))) := by show WC _ _ _; rw [HEq.out]; exact hw
      have HB3 : Hid (WB P w w3) := HWB.out.trans hb3
      have HrB3 := Lib.hid (own_wb HrB.out hb3 hPw)
      have HrR3 := Lib.hid (own_wb HrR.out hb3 hPw)
      clear hw hb3 HrB HrR HWB
      go_wp2
      go_roundw
      case rel => exact ⟨i + 1, hlt, by go_num, HW3.out, HrB3.out, HrR3.out, HB3.out⟩
      case measure => simp [intOf]; omega
    · obtain rfl : i = B.length := by omega
      rw [List.take_length] at hwc
      have HWq : Hid (WC wr P (l0 ++ (gam B.length ++ gams (bnums B)))) := by show WC _ _ _; rw [← List.append_assoc]; exact hwc
      have HrR := Lib.hid hrR; have HWB := Lib.hid hwb
      clear hwc hrB hrR hwb
      go_wp2
      go_ret
      exact ⟨⟨_, _, rfl, HrR.out⟩, HWq.out, HWB.out⟩
def frm (R : List Rn) (i : Nat) : Nat := (R[i]?.getD ((0, 0) : Rn)).1
def mny (R : List Rn) (i : Nat) : Nat := (R[i]?.getD ((0, 0) : Rn)).2
/-- The number that is written of where a run begins. -/
def gapN (a : Int) (R : List Rn) (i : Nat) : Nat := if i = 0 then fold ((frm R 0 : Int) - a) else frm R i - (frm R (i - 1) + mny R (i - 1) + 1)
theorem rnx_snoc (ls : Nat) : ∀ (R : List Rn) (e : Nat) (p : Rn), rnx ls e (R ++ [p]) = rnx ls e R ++ [p.1 - (match R.getLast? with | none => e | some q => q.1 + q.2 + 1), p.2 - ls]
  | [], e, p => by simp [rnx]
  | q :: R, e, p => by
    rw [List.cons_append]
    unfold rnx
    rw [rnx_snoc ls R (q.1 + q.2 + 1) p]
    cases R with
    | nil => simp
    | cons r t =>
      obtain ⟨z, hz⟩ : ∃ z, (r :: t).getLast? = some z := ⟨_, List.getLast?_eq_some_getLast (by simp)⟩
      rw [List.getLast?_cons_cons, hz]; rfl
theorem rnu_cons (a : Int) (ls : Nat) (p : Rn) (t : List Rn) : rnu a ls (p :: t) = fold ((p.1 : Int) - a) :: (p.2 - ls) :: rnx ls (p.1 + p.2 + 1) t := rfl
theorem rnu_take (a : Int) (ls : Nat) (R : List Rn) (i : Nat) (h : i < R.length) : rnu a ls (R.take (i + 1)) = rnu a ls (R.take i) ++ [gapN a R i, mny R i - ls] := by
  have hs : R.take (i + 1) = R.take i ++ [R[i]?.getD (0, 0)] := by rw [List.take_add_one, List.getElem?_eq_getElem h]; rfl
  rw [hs]
  unfold gapN
  cases R with
  | nil => simp at h
  | cons q R =>
    cases i with
    | zero => simp [rnu, rnx, frm, mny]
    | succ i =>
      rw [if_neg (Nat.succ_ne_zero i), List.take_succ_cons, List.cons_append]
      rw [rnu_cons, rnu_cons, rnx_snoc]
      have hi : i < R.length := by simpa using h
      have hlast : (match (R.take i).getLast? with | none => q.1 + q.2 + 1 | some q => q.1 + q.2 + 1) = frm (q :: R) (i + 1 - 1) + mny (q :: R) (i + 1 - 1) + 1 := by
        cases i with
        | zero => simp [frm, mny]
        | succ j =>
          have e : (R.take (j + 1)).getLast? = some (R[j]'(by omega)) := by
            rw [List.getLast?_eq_getElem?, List.length_take, Nat.min_eq_left (by omega), Nat.add_sub_cancel, List.getElem?_take_of_lt (by omega), List.getElem?_eq_getElem (by omega)]
          rw [e]
          simp [frm, mny, List.getElem?_eq_getElem (show j < R.length by omega)]
      rw [hlast]
      simp [frm, mny]
set_option maxHeartbeats 1000000 in
theorem gapOf_any (R : List Rn) (hR : OkR R) (a : Nat) (ha : a ≤ 1048576) (i : Nat) (hi : i < R.length) (A : Option Addr) (c : Nat) (w : World) (h : RdV w w.heap.size A (rcs (rz (R.take i)))) :
    Calls Tryz.prog 153 #[.int .i64 (frm R i : Int), .slice A i c, .int .i64 (a : Int)] w fun e w' => e = .returned (.int .u64 (gapN (a : Int) R i : Int)) ∧ Below w.heap.size w w' := by
  have hb : mny R i ≤ 300 ∧ frm R i + mny R i ≤ 1048577 := hR.2.2 _ (mem_at R i hi)
  by_cases h0 : i = 0
  · subst h0
    have HF := Lib.hid (fold_any ((frm R 0 : Int) - (a : Int)) (by omega) (by omega) w)
    have e : gapN (a : Int) R 0 = fold ((frm R 0 : Int) - (a : Int)) := rfl
    rw [e]
    clear h hi e hR
    generalize frm R 0 = f at *
    generalize mny R 0 = m at *
    have t1 : IntKind.i64.wrap ((f : Int) - (a : Int)) = (f : Int) - (a : Int) := IntWalk.i64_in _ (by omega)
    generalize fold ((f : Int) - (a : Int)) = q at *
    go_enter Tryz.func153, Tryz.ntmps153
    go_wp2_with fail
    refine HF.out.mono ?_
    rintro e w' ⟨rfl, rfl⟩
    go_wp2
    go_ret
    exact ⟨rfl, Below.refl _ _⟩
  · have hi1 : i - 1 < R.length := by omega
    have hb1 : mny R (i - 1) ≤ 300 ∧ frm R (i - 1) + mny R (i - 1) ≤ 1048577 := hR.2.2 _ (mem_at R (i - 1) hi1)
    have hsep : frm R (i - 1) + mny R (i - 1) < frm R i := by
      unfold frm mny
      have hp := ((sep_pairs R (-1)).1 hR.2.1).2
      rw [List.getElem?_eq_getElem hi1, List.getElem?_eq_getElem hi]
      exact List.pairwise_iff_getElem.1 hp (i - 1) i hi1 hi (by omega)
    have hz : (rz (R.take i))[i - 1]?.getD (0, 0) = ((frm R (i - 1) : Int), (mny R (i - 1) : Int)) := by
      rw [rz_at _ _ (by rw [List.length_take]; omega), List.getElem?_take_of_lt (by omega)]; rfl
    have HL := Lib.hid (lfrom_any (rz (R.take i)) i (by rw [rz_length, List.length_take]; omega) (by omega) (by have := hR.1; omega) _ _ hz (by omega) (by omega) A c w h)
    have e : gapN (a : Int) R i = frm R i - (frm R (i - 1) + mny R (i - 1) + 1) := by unfold gapN; rw [if_neg h0]
    rw [e]
    clear h hi hi1 e hR hz
    generalize frm R i = f at *
    generalize mny R i = m at *
    generalize frm R (i - 1) = g at *
    generalize mny R (i - 1) = k at *
    have t1 : ((f : Int) - ((g : Int) + (k : Int) + 1)) = ((f - (g + k + 1) : Nat) : Int) := by omega
    have t2 : IntKind.i64.wrap ((f - (g + k + 1) : Nat) : Int) = ((f - (g + k + 1) : Nat) : Int) := IntWalk.i64_in _ (by omega)
    have t3 : IntKind.u64.wrap ((f - (g + k + 1) : Nat) : Int) = ((f - (g + k + 1) : Nat) : Int) := u64w _ (by omega) (by omega)
    have t0 : ((i : Int) == 0) = false := by simp; omega
    have t4 : wrap64 ((f - (g + k + 1) : Nat) : Int) = ((f - (g + k + 1) : Nat) : Int) := by unfold wrap64; omega
    go_enter Tryz.func153, Tryz.ntmps153
    go_wp2_with fail
    refine HL.out.mono ?_
    rintro e w1 ⟨rfl, B1⟩
    have HB := Lib.hid B1
    clear B1
    go_wp2
    go_ret
    exact ⟨by first | rfl | (simp [t1, t2, t3, t4]; done) | simp [t1], HB.out⟩
theorem rdv_takeV {w : World} {B : Nat} {A : Option Addr} {vs : List Value} (h : RdV w B A vs) (k : Nat) : RdV w B A (vs.take k) := by
  rcases h with h | ⟨b, off, e, hb, hc⟩
  · left; rw [h, List.take_nil]
  · refine .inr ⟨b, off, e, hb, fun i v hi => hc i v ?_⟩
    rw [List.getElem?_take] at hi
    split at hi
    · exact hi
    · cases hi
theorem rcs_take : ∀ (r : List Ri) (i : Nat), (rcs r).take (i * 2) = rcs (r.take i)
  | [], i => by simp [rcs]
  | p :: t, 0 => by simp [rcs]
  | p :: t, i + 1 => by
    rw [List.take_succ_cons, rcs_cons, rcs_cons, show (i + 1) * 2 = i * 2 + 2 by omega, List.take_succ_cons, List.take_succ_cons, rcs_take t i]
theorem rz_take (R : List Rn) (i : Nat) : rz (R.take i) = (rz R).take i := by simp [rz, List.map_take]
theorem wb_cell {P : Nat} {w w' : World} (h : WB P w w') {k i : Nat} (hk : k < w.heap.size) (hne : k ≠ P) : w'.cell? ⟨k, i, none⟩ = w.cell? ⟨k, i, none⟩ := World.cell?_of_block (h.block k hk (by simpa using hne))
def ArRel (a ls : Nat) (R : List Rn) (S : List Nat) (l0 : List Bool) (P : Nat) (w : World) (vR vS : Value) (p : Value) (wr : World) : Prop :=
  ∃ i : Nat, i ≤ R.length ∧ p = .int .i64 (i : Int) ∧ WC wr P (l0 ++ gam R.length ++ gams (rnu (a : Int) ls (R.take i))) ∧ wr.ownsRow w.heap.size 134 2 vR R.length (rcs (rz R)) ∧ wr.ownsRow w.heap.size 3 1 vS S.length (zc (ns S)) ∧ WB P w wr
theorem gapN_le (a : Nat) (ha : a ≤ 1048576) (R : List Rn) (hR : OkR R) (i : Nat) (hi : i < R.length) : gapN (a : Int) R i ≤ 2097152 := by
  have hb : mny R i ≤ 300 ∧ frm R i + mny R i ≤ 1048577 := hR.2.2 _ (mem_at R i hi)
  have hp : 1 ≤ mny R i := sep_pos R _ hR.2.1 _ (mem_at R i hi)
  unfold gapN
  split
  · rename_i h; subst h
    unfold fold; split <;> omega
  · omega
set_option maxHeartbeats 8000000 in
theorem addRuns_any (P : Nat) (l0 : List Bool) (a : Nat) (ha : a ≤ 1048576) (l : List Nat) (hl : Rising l) (n : Nat) (hn : l.length = n) (ls : Nat) (hls : 2 ≤ ls) (hls2 : ls ≤ 300) (A : Option Addr) (c : Nat) (hc : n ≤ c) (w : World) (hW : WC w P l0) (h : RdV w w.heap.size A (zc (ns l))) :
    Calls Tryz.prog 114 #[.pointer (some ⟨P, 0, none⟩), .int .i64 (a : Int), .slice A n c, .int .i64 (ls : Int)] w (AddLP P w (l0 ++ (gam (lng ls (rs l)).length ++ gams (rnu (a : Int) ls (lng ls (rs l))))) (flatR (sht ls (rs l)))) := by
  have HSp := Lib.hid (split_own l hl n hn ls hls hls2 A c hc w h)
  have hR : OkR (lng ls (rs l)) := okR_filter _ _ (rs_okR l hl)
  have hge : ∀ q ∈ lng ls (rs l), ls ≤ q.2 := fun q hq => by have := (List.mem_filter.1 hq).2; simpa using this
  have hPw := hW.lt
  have HWC := Lib.hid hW
  have hRl := hR.1
  generalize lng ls (rs l) = R at *
  generalize flatR (sht ls (rs l)) = S at *
  have HR := Lib.hid hR; have HGe := Lib.hid hge
  clear hl hn h hW hR hge hc
  go_enter Tryz.func114, Tryz.ntmps114
  go_wp2_with fail
  refine HSp.out.mono ?_
  rintro e w1 ⟨AR, cR, AS, cS, rfl, rR, rS, b1⟩
  rw [rz_length] at rR ⊢
  have HAN := Lib.hid (addNumber_any P l0 R.length (by omega) w1 (HWC.out.on b1))
  have HrR := Lib.hid rR; have HrS := Lib.hid rS; have HB1 := Lib.hid b1
  clear rR rS b1
  go_wp2_with fail
  refine HAN.out.mono ?_
  rintro e w2 ⟨rfl, hw, hb⟩
  have HW2 := Lib.hid hw
  have HB2 : Hid (WB P w w2) := (wb_below HB1.out).trans hb
  have HrR2 := Lib.hid (own_wb HrR.out hb hPw)
  have HrS2 := Lib.hid (own_wb HrS.out hb hPw)
  clear hw hb HrR HrS HB1 HSp
  go_wp2
  go_loopw [27] (fun p wr => ArRel a ls R S l0 P w (.slice AR R.length cR) (.slice AS S.length cS) p wr) (fun p _ => R.length - (intOf p).toNat)
  case atStart => exact ⟨0, Nat.zero_le _, rfl, by rw [List.take_zero]; simpa [rnu, gams] using HW2.out, HrR2.out, HrS2.out, HB2.out⟩
  case round =>
    obtain ⟨i, hi, rfl, hwc, hrR, hrS, hwb⟩ := hrel
    clear HWC HAN HW2 HB2 HrR2 HrS2
    by_cases hlt : i < R.length
    · have hrd := own_rdvT hrR
      obtain ⟨r0, r1⟩ := rcs_at (rz R) i (by rw [rz_length]; exact hlt)
      rw [rz_at R i hlt] at r0 r1
      obtain ⟨b, off, rfl, hb, k0⟩ := hrd.at_ r0
      obtain ⟨b2, off2, hA2', hb2, k1⟩ := hrd.at_ r1
      simp only [Option.some.injEq, Addr.mk.injEq, and_true] at hA2'
      obtain ⟨rfl, rfl⟩ := hA2'
      rw [← Nat.add_assoc] at k1
      change wr.cell? ⟨b, off + i * 2, none⟩ = some (.int .i64 (frm R i : Int)) at k0
      change wr.cell? ⟨b, off + i * 2 + 1, none⟩ = some (.int .i64 (mny R i : Int)) at k1
      have hbd : mny R i ≤ 300 ∧ frm R i + mny R i ≤ 1048577 := HR.out.2.2 _ (mem_at R i hlt)
      have hmg : ls ≤ mny R i := HGe.out _ (mem_at R i hlt)
      have hgl := gapN_le a ha R HR.out i hlt
      have hpre : RdV wr wr.heap.size (some ⟨b, off, none⟩) (rcs (rz (R.take i))) := by
        have := rdv_takeV hrd (i * 2)
        rwa [rcs_take, ← rz_take] at this
      have htk := rnu_take (a : Int) ls R i hlt
      have HEq : Hid (l0 ++ gam R.length ++ gams (rnu (a : Int) ls (R.take (i + 1))) = ((l0 ++ gam R.length ++ gams (rnu (a : Int) ls (R.take i))) ++ gam (gapN (a : Int) R i)) ++ gam (mny R i - ls)) := by
        show _ = _
        rw [htk, gams_append, gams_cons, gams_cons, gams_nil, List.append_nil]
        simp only [List.append_assoc]
      have HGap : Hid (∀ V c, Below wr.heap.size wr V → Calls Tryz.prog 153 #[.int .i64 (frm R i : Int), .slice (some ⟨b, off, none⟩) i c, .int .i64 (a : Int)] V fun e w' => e = .returned (.int .u64 (gapN (a : Int) R i : Int)) ∧ Below V.heap.size V w') := fun V c hV => gapOf_any R HR.out a ha i hlt _ c V (hpre.on hV)
      have HGam : Hid (∀ V, Calls Tryz.prog 149 #[.int .u64 (gapN (a : Int) R i : Int)] V (Gv V ((gam (gapN (a : Int) R i)).length : Int) (pack (gam (gapN (a : Int) R i))).length (pack (gam (gapN (a : Int) R i))) 0)) := fun V => gamma_ok _ (by omega) _ rfl V
      have HAd : Hid (∀ A c V, Below wr.heap.size wr V → Rd V V.heap.size A (pack (gam (gapN (a : Int) R i))) → Calls Tryz.prog 115 #[.pointer (some ⟨P, 0, none⟩), .agg #[.int .i64 ((gam (gapN (a : Int) R i)).length : Int), .slice A (pack (gam (gapN (a : Int) R i))).length c], .int .i64 0] V (AddP P V (l0 ++ gam R.length ++ gams (rnu (a : Int) ls (R.take i)) ++ gam (gapN (a : Int) R i)))) := fun A c V hV hR2 => add_any P _ _ _ A _ c 0 V (hwc.on hV) (.inl ⟨gam_len40 _ (by omega), rfl, rfl, hR2, rfl⟩)
      have HAn : Hid (∀ V, WC V P (l0 ++ gam R.length ++ gams (rnu (a : Int) ls (R.take i)) ++ gam (gapN (a : Int) R i)) → Calls Tryz.prog 112 #[.pointer (some ⟨P, 0, none⟩), .int .i64 ((mny R i - ls : Nat) : Int)] V (AddP P V (l0 ++ gam R.length ++ gams (rnu (a : Int) ls (R.take i)) ++ gam (gapN (a : Int) R i) ++ gam (mny R i - ls)))) := fun V hV => addNumber_any P _ _ (by omega) V hV
      have hPwr := hwc.lt
      have HrR := Lib.hid hrR; have HrS := Lib.hid hrS; have HWB := Lib.hid hwb
      have t1 : ((mny R i : Int) - (ls : Int)) = ((mny R i - ls : Nat) : Int) := by omega
      have t2 : wrap64 ((mny R i - ls : Nat) : Int) = ((mny R i - ls : Nat) : Int) := by unfold wrap64; omega
      have t3 : i ≤ cR := by have := (own_capT hrR).1; omega
      have t4 : (i : Int) ≤ (cR : Int) := by omega
      have t5 : ¬ (cR : Int) < (i : Int) := by omega
      clear hwc hrR hrS hwb htk hrd hpre r0 r1
      generalize gapN (a : Int) R i = g at *
      generalize (gam g).length = gl at *
      generalize (pack (gam g)).length = gn at *
      generalize hmy : mny R i - ls = y at *
      generalize frm R i = f at *
      generalize mny R i = m at *
      clear hmy
      go_wp2_with fail
      generalize hV : wr.alloc (.cells #[.int .i64 (f : Int), .int .i64 (m : Int)] 134) = V0
      have HV0 : Hid (Below wr.heap.size wr V0) := hV ▸ one_below wr _
      have HBx : Hid (V0.heap[wr.heap.size]? = some (.cells #[.int .i64 (f : Int), .int .i64 (m : Int)] 134 (0, 0))) := hV ▸ World.alloc_heap_new wr _
      have hzs : wr.heap.size < V0.heap.size := (Array.getElem?_eq_some_iff.1 HBx.out).1
      clear hV k0 k1
      have HCl : Hid (∀ V, Below V0.heap.size V0 V → V.cell? ⟨wr.heap.size, 0, none⟩ = some (.int .i64 (f : Int))) := fun V hV => ((hV.cell (p := ⟨wr.heap.size, 0, none⟩) hzs).trans (cell_at HBx.out _)).trans rfl
      go_region_held3 (fun w' => w'.cell? ⟨wr.heap.size, 0, none⟩ = some (.int .i64 (f : Int)))
        (first | exact hk6 | (refine HCl.out _ ?_; first | exact hk3.out | exact hk1.out | exact (Below.refl _ V0).drew | exact Below.refl _ _))
        (first
          | (go_at_call 115; have hx := hr3.out; refine (HAd.out A3 c3 w3 (HV0.out.trans (hk3.out.mono HV0.out.size)) hx).mono ?_; rintro e w4 ⟨rfl, hw4, hb4⟩; have hk4 := Lib.hid hw4; have hk5 := Lib.hid hb4; have hk6 : w4.cell? ⟨wr.heap.size, 0, none⟩ = some (.int .i64 (f : Int)) := (wb_cell hb4 (Nat.lt_of_lt_of_le hzs hk3.out.size) (by omega)).trans (HCl.out _ hk3.out); clear hw4 hb4 hx)
          | (go_at_call 149; have hy := hk1.out; refine (HGam.out w2).mono ?_; rintro e w3 ⟨A3, c3, rfl, r3, b3⟩; have hk3 : Hid (Below V0.heap.size V0 w3) := hy.trans (b3.mono hy.size); have hr3 := Lib.hid r3; clear r3 b3 hy)
          | (go_at_call 153; refine (HGap.out V0.drew _ HV0.out.drew).mono ?_; rintro e w2 ⟨rfl, B2⟩; have hk1 : Hid (Below V0.heap.size V0 w2) := ((Below.refl _ V0).drew).trans B2; clear B2))
      all_goals (
        have HWBr : Hid (WB P wr w4) := (wb_below (HV0.out.trans (hk3.out.mono HV0.out.size))).trans hk5.out
        have hne : some wr.heap.size ≠ some P := by simp; omega
        have hb4 : w4.heap[wr.heap.size]? = some (.cells #[.int .i64 (f : Int), .int .i64 (m : Int)] 134 (0, 0)) := ((hk5.out.block _ (Nat.lt_of_lt_of_le hzs hk3.out.size) hne).trans (hk3.out.block _ hzs)).trans HBx.out
        have j1 : w4.cell? ⟨wr.heap.size, 1, none⟩ = some (.int .i64 (m : Int)) := (cell_at hb4 _).trans rfl
        have HAn4 := Lib.hid (HAn.out w4 hk4.out)
        clear hb4 hne
        go_wp2_with fail
        refine HAn4.out.mono ?_
        rintro e w5 ⟨rfl, hw, hb5⟩
        have HW5 : Hid (WC w5 P (l0 ++ gam R.length ++ gams (rnu (a : Int) ls (R.take (i + 1))))) := by show WC _ _ _; rw [HEq.out]; exact hw
        have HBr : Hid (WB P wr w5) := HWBr.out.trans hb5
        have HB5 : Hid (WB P w w5) := HWB.out.trans HBr.out
        have HrR5 := Lib.hid (own_wb HrR.out HBr.out hPw)
        have HrS5 := Lib.hid (own_wb HrS.out HBr.out hPw)
        clear hw hb5 HrR HrS HWB
        go_wp2
        go_roundw
        case rel => exact ⟨i + 1, hlt, by go_num, HW5.out, HrR5.out, HrS5.out, HB5.out⟩
        case measure => simp [intOf]; omega)
    · obtain rfl : i = R.length := by omega
      rw [List.take_length] at hwc
      have HWq : Hid (WC wr P (l0 ++ (gam R.length ++ gams (rnu (a : Int) ls R)))) := by show WC _ _ _; rw [← List.append_assoc]; exact hwc
      have HrS := Lib.hid hrS; have HWB := Lib.hid hwb
      clear hwc hrR hrS hwb
      go_wp2
      go_ret
      exact ⟨⟨_, _, rfl, HrS.out⟩, HWq.out, HWB.out⟩
end
end Go.Proofs.YtcffndfbkbchjaaGreat
