/- The law HuffOften: who stands more often has no more bits; who never stands has none; for whatever is handed in. -/
import Derived.Test.YtndiocehkdbjkaaJH6
import Derived.BigQuiet
namespace Go.Proofs.Ytndiocehkdbjkaa
set_option maxRecDepth 100000
set_option linter.unusedVariables false
open Go.RowKit Go.Shelf

theorem quiet_low {B : Nat} {w v : World} (h : Below B w v) (q : Nat) : Below B w (v.drewN q) := ⟨h.os, h.tape, h.output, h.size, h.block⟩
set_option maxHeartbeats 4000000 in
theorem hof_e (A : Option Addr) (n c : Nat) (s t : Int) (w : World) (e0 : Int) (h0 : e0 ≠ 0) (HL : Hid (∀ V, Below w.heap.size w V → Calls Try.prog 16 #[.slice A n c] V (GzM V 0 [] e0))) :
    Calls Try.prog 5 #[.slice A n c, .int .i64 s, .int .i64 t] w fun e w' => e = .returned (.bool true) ∧ Below w.heap.size w w' := by
  have t0 : (e0 != 0) = true := by simpa using h0
  clear h0
  go_enter Try.func5, Try.ntmps5
  go_wp2_with fail
  refine (HL.out _ (Below.refl _ _)).mono ?_
  rintro e w1_ ⟨A1, c1, rfl, hc1, hn1, Rq, Bq⟩
  have Sq : Below w.heap.size w w1_ := Bq
  have HB : Hid (Below w.heap.size w w1_) := Sq
  clear Bq Sq
  have HR1 := Lib.hid Rq; clear Rq
  go_wp2_with fail
  refine (huffbegun_true _).mono ?_
  rintro e w2_ ⟨rfl, Bq⟩
  have Sq : Below w1_.heap.size w1_ w2_ := Bq
  replace HR1 : Hid (RdV w2_ w2_.heap.size A1 (zc (ns []))) := HR1.out.on Sq
  replace HB : Hid (Below w.heap.size w w2_) := HB.out.trans (Sq.mono HB.out.size)
  clear Bq Sq
  go_wp2
  go_ret
  exact ⟨rfl, HB.out⟩
set_option maxHeartbeats 4000000 in
theorem hof_s0 (A : Option Addr) (n c : Nat) (s t : Int) (w : World) (l : List Nat) (h0 : s < 0) (HL : Hid (∀ V, Below w.heap.size w V → Calls Try.prog 16 #[.slice A n c] V (GzM V n l 0))) :
    Calls Try.prog 5 #[.slice A n c, .int .i64 s, .int .i64 t] w fun e w' => e = .returned (.bool true) ∧ Below w.heap.size w w' := by
  have u0 : decide (s < 0) = true := by simpa using h0
  go_enter Try.func5, Try.ntmps5
  go_wp2_with fail
  refine (HL.out _ (Below.refl _ _)).mono ?_
  rintro e w1_ ⟨A1, c1, rfl, hc1, hn1, Rq, Bq⟩
  have Sq : Below w.heap.size w w1_ := Bq
  have HB : Hid (Below w.heap.size w w1_) := Sq
  clear Bq Sq
  have HR1 := Lib.hid Rq; clear Rq
  go_wp2_with fail
  refine (huffbegun_true _).mono ?_
  rintro e w2_ ⟨rfl, Bq⟩
  have Sq : Below w1_.heap.size w1_ w2_ := Bq
  replace HR1 : Hid (RdV w2_ w2_.heap.size A1 (zc (ns l))) := HR1.out.on Sq
  replace HB : Hid (Below w.heap.size w w2_) := HB.out.trans (Sq.mono HB.out.size)
  clear Bq Sq
  go_wp2
  go_ret
  exact ⟨rfl, HB.out⟩
set_option maxHeartbeats 4000000 in
theorem hof_s1 (A : Option Addr) (n c : Nat) (s t : Int) (w : World) (l : List Nat) (h0 : 0 ≤ s) (h1 : (n : Int) ≤ s) (HL : Hid (∀ V, Below w.heap.size w V → Calls Try.prog 16 #[.slice A n c] V (GzM V n l 0))) :
    Calls Try.prog 5 #[.slice A n c, .int .i64 s, .int .i64 t] w fun e w' => e = .returned (.bool true) ∧ Below w.heap.size w w' := by
  have u0 : decide (s < 0) = false := by simp; omega
  have u1 : decide ((n : Int) ≤ s) = true := by simpa using h1
  have u2 : decide (s ≥ (n : Int)) = true := by simpa using h1
  go_enter Try.func5, Try.ntmps5
  go_wp2_with fail
  refine (HL.out _ (Below.refl _ _)).mono ?_
  rintro e w1_ ⟨A1, c1, rfl, hc1, hn1, Rq, Bq⟩
  have Sq : Below w.heap.size w w1_ := Bq
  have HB : Hid (Below w.heap.size w w1_) := Sq
  clear Bq Sq
  have HR1 := Lib.hid Rq; clear Rq
  go_wp2_with fail
  refine (huffbegun_true _).mono ?_
  rintro e w2_ ⟨rfl, Bq⟩
  have Sq : Below w1_.heap.size w1_ w2_ := Bq
  replace HR1 : Hid (RdV w2_ w2_.heap.size A1 (zc (ns l))) := HR1.out.on Sq
  replace HB : Hid (Below w.heap.size w w2_) := HB.out.trans (Sq.mono HB.out.size)
  clear Bq Sq
  go_wp2
  go_ret
  exact ⟨rfl, HB.out⟩
set_option maxHeartbeats 4000000 in
theorem hof_t0 (A : Option Addr) (n c : Nat) (s t : Int) (w : World) (l : List Nat) (h0 : 0 ≤ s) (h1 : s < (n : Int)) (h2 : t < 0) (HL : Hid (∀ V, Below w.heap.size w V → Calls Try.prog 16 #[.slice A n c] V (GzM V n l 0))) :
    Calls Try.prog 5 #[.slice A n c, .int .i64 s, .int .i64 t] w fun e w' => e = .returned (.bool true) ∧ Below w.heap.size w w' := by
  have u0 : decide (s < 0) = false := by simp; omega
  have u1 : decide ((n : Int) ≤ s) = false := by simp; omega
  have u2 : decide (s ≥ (n : Int)) = false := by simp; omega
  have u3 : decide (t < 0) = true := by simpa using h2
  go_enter Try.func5, Try.ntmps5
  go_wp2_with fail
  refine (HL.out _ (Below.refl _ _)).mono ?_
  rintro e w1_ ⟨A1, c1, rfl, hc1, hn1, Rq, Bq⟩
  have Sq : Below w.heap.size w w1_ := Bq
  have HB : Hid (Below w.heap.size w w1_) := Sq
  clear Bq Sq
  have HR1 := Lib.hid Rq; clear Rq
  go_wp2_with fail
  refine (huffbegun_true _).mono ?_
  rintro e w2_ ⟨rfl, Bq⟩
  have Sq : Below w1_.heap.size w1_ w2_ := Bq
  replace HR1 : Hid (RdV w2_ w2_.heap.size A1 (zc (ns l))) := HR1.out.on Sq
  replace HB : Hid (Below w.heap.size w w2_) := HB.out.trans (Sq.mono HB.out.size)
  clear Bq Sq
  go_wp2
  go_ret
  exact ⟨rfl, HB.out⟩
set_option maxHeartbeats 4000000 in
theorem hof_t1 (A : Option Addr) (n c : Nat) (s t : Int) (w : World) (l : List Nat) (h0 : 0 ≤ s) (h1 : s < (n : Int)) (h2 : 0 ≤ t) (h3 : (n : Int) ≤ t) (HL : Hid (∀ V, Below w.heap.size w V → Calls Try.prog 16 #[.slice A n c] V (GzM V n l 0))) :
    Calls Try.prog 5 #[.slice A n c, .int .i64 s, .int .i64 t] w fun e w' => e = .returned (.bool true) ∧ Below w.heap.size w w' := by
  have u0 : decide (s < 0) = false := by simp; omega
  have u1 : decide ((n : Int) ≤ s) = false := by simp; omega
  have u2 : decide (s ≥ (n : Int)) = false := by simp; omega
  have u3 : decide (t < 0) = false := by simp; omega
  have u4 : decide ((n : Int) ≤ t) = true := by simpa using h3
  have u5 : decide (t ≥ (n : Int)) = true := by simpa using h3
  go_enter Try.func5, Try.ntmps5
  go_wp2_with fail
  refine (HL.out _ (Below.refl _ _)).mono ?_
  rintro e w1_ ⟨A1, c1, rfl, hc1, hn1, Rq, Bq⟩
  have Sq : Below w.heap.size w w1_ := Bq
  have HB : Hid (Below w.heap.size w w1_) := Sq
  clear Bq Sq
  have HR1 := Lib.hid Rq; clear Rq
  go_wp2_with fail
  refine (huffbegun_true _).mono ?_
  rintro e w2_ ⟨rfl, Bq⟩
  have Sq : Below w1_.heap.size w1_ w2_ := Bq
  replace HR1 : Hid (RdV w2_ w2_.heap.size A1 (zc (ns l))) := HR1.out.on Sq
  replace HB : Hid (Below w.heap.size w w2_) := HB.out.trans (Sq.mono HB.out.size)
  clear Bq Sq
  go_wp2
  go_ret
  exact ⟨rfl, HB.out⟩
set_option maxHeartbeats 4000000 in
theorem hof_1 (A : Option Addr) (n c s t : Nat) (w : World) (cs : List Value) (l : List Nat) (hs : s < n) (ht : t < n) (hl : l.length = n) (os ot ls lt : Nat) (p : Bool) (h1 : ((os : Int) == 0) = p) (h2 : ((ls : Int) == 0) = p) (h3 : os ≤ ot) (e1 : l[s]?.getD 0 = ls) (e2 : l[t]?.getD 0 = lt) (HA : Hid (∀ V, Below w.heap.size w V → RdV V V.heap.size A cs)) (k1 : cs[s]? = some (.int .i64 (os : Int))) (k2 : cs[t]? = some (.int .i64 (ot : Int))) (HL : Hid (∀ V, Below w.heap.size w V → Calls Try.prog 16 #[.slice A n c] V (GzM V n l 0))) :
    Calls Try.prog 5 #[.slice A n c, .int .i64 (s : Int), .int .i64 (t : Int)] w fun e w' => e = .returned (.bool true) ∧ Below w.heap.size w w' := by
  have s1 : decide ((s : Int) < 0) = false := by simp
  have s2 : decide ((n : Int) ≤ (s : Int)) = false := by simp; omega
  have s3 : decide ((s : Int) ≥ (n : Int)) = false := by simp; omega
  have s4 : decide ((t : Int) < 0) = false := by simp
  have s5 : decide ((n : Int) ≤ (t : Int)) = false := by simp; omega
  have s6 : decide ((t : Int) ≥ (n : Int)) = false := by simp; omega
  have s7 : decide (n ≤ s) = false := by simp; omega
  have s8 : decide (n ≤ t) = false := by simp; omega
  have u0 : decide ((os : Int) ≤ (ot : Int)) = true := by simp; omega
  have u1 : decide (os ≤ ot) = true := by simpa using h3
  go_enter Try.func5, Try.ntmps5
  go_wp2_with fail
  refine (HL.out _ (Below.refl _ _)).mono ?_
  rintro e w1_ ⟨A1, c1, rfl, hc1, hn1, Rq, Bq⟩
  have Sq : Below w.heap.size w w1_ := Bq
  have HB : Hid (Below w.heap.size w w1_) := Sq
  clear Bq Sq
  have HR1 := Lib.hid Rq; clear Rq
  go_wp2_with fail
  refine (huffbegun_true _).mono ?_
  rintro e w2_ ⟨rfl, Bq⟩
  have Sq : Below w1_.heap.size w1_ w2_ := Bq
  replace HR1 : Hid (RdV w2_ w2_.heap.size A1 (zc (ns l))) := HR1.out.on Sq
  replace HB : Hid (Below w.heap.size w w2_) := HB.out.trans (Sq.mono HB.out.size)
  clear Bq Sq
  have hA2 := HA.out w2_ HB.out
  obtain ⟨b, off, rfl, hb, k3⟩ := hA2.at_ k1
  obtain ⟨b', off', e3, hb', k4⟩ := hA2.at_ k2
  simp only [Option.some.injEq, Addr.mk.injEq, and_true] at e3
  obtain ⟨rfl, rfl⟩ := e3
  have j1 := ns_get l s (by omega)
  have j2 := ns_get l t (by omega)
  rw [e1] at j1
  rw [e2] at j2
  obtain ⟨g, og, rfl, hg, k5⟩ := HR1.out.at_ j1
  obtain ⟨g', og', e3, hg', k6⟩ := HR1.out.at_ j2
  simp only [Option.some.injEq, Addr.mk.injEq, and_true] at e3
  obtain ⟨rfl, rfl⟩ := e3
  clear hA2 j1 j2 hb' hg' HA HL k1 k2 e1 e2
  go_wp2_with fail
  go_quiet (fail)
  go_wp2
  go_ret
  exact ⟨by simp, quiet_low HB.out _⟩
set_option maxHeartbeats 4000000 in
theorem hof_2 (A : Option Addr) (n c s t : Nat) (w : World) (cs : List Value) (l : List Nat) (hs : s < n) (ht : t < n) (hl : l.length = n) (os ot ls lt : Nat) (p : Bool) (h1 : ((os : Int) == 0) = p) (h2 : ((ls : Int) == 0) = p) (h3 : ot < os) (h4 : ls ≤ lt) (e1 : l[s]?.getD 0 = ls) (e2 : l[t]?.getD 0 = lt) (HA : Hid (∀ V, Below w.heap.size w V → RdV V V.heap.size A cs)) (k1 : cs[s]? = some (.int .i64 (os : Int))) (k2 : cs[t]? = some (.int .i64 (ot : Int))) (HL : Hid (∀ V, Below w.heap.size w V → Calls Try.prog 16 #[.slice A n c] V (GzM V n l 0))) :
    Calls Try.prog 5 #[.slice A n c, .int .i64 (s : Int), .int .i64 (t : Int)] w fun e w' => e = .returned (.bool true) ∧ Below w.heap.size w w' := by
  have s1 : decide ((s : Int) < 0) = false := by simp
  have s2 : decide ((n : Int) ≤ (s : Int)) = false := by simp; omega
  have s3 : decide ((s : Int) ≥ (n : Int)) = false := by simp; omega
  have s4 : decide ((t : Int) < 0) = false := by simp
  have s5 : decide ((n : Int) ≤ (t : Int)) = false := by simp; omega
  have s6 : decide ((t : Int) ≥ (n : Int)) = false := by simp; omega
  have s7 : decide (n ≤ s) = false := by simp; omega
  have s8 : decide (n ≤ t) = false := by simp; omega
  have u0 : decide ((os : Int) ≤ (ot : Int)) = false := by simp; omega
  have u1 : decide (os ≤ ot) = false := by simp; omega
  have u2 : decide ((ls : Int) ≤ (lt : Int)) = true := by simp; omega
  have u3 : decide (ls ≤ lt) = true := by simpa using h4
  go_enter Try.func5, Try.ntmps5
  go_wp2_with fail
  refine (HL.out _ (Below.refl _ _)).mono ?_
  rintro e w1_ ⟨A1, c1, rfl, hc1, hn1, Rq, Bq⟩
  have Sq : Below w.heap.size w w1_ := Bq
  have HB : Hid (Below w.heap.size w w1_) := Sq
  clear Bq Sq
  have HR1 := Lib.hid Rq; clear Rq
  go_wp2_with fail
  refine (huffbegun_true _).mono ?_
  rintro e w2_ ⟨rfl, Bq⟩
  have Sq : Below w1_.heap.size w1_ w2_ := Bq
  replace HR1 : Hid (RdV w2_ w2_.heap.size A1 (zc (ns l))) := HR1.out.on Sq
  replace HB : Hid (Below w.heap.size w w2_) := HB.out.trans (Sq.mono HB.out.size)
  clear Bq Sq
  have hA2 := HA.out w2_ HB.out
  obtain ⟨b, off, rfl, hb, k3⟩ := hA2.at_ k1
  obtain ⟨b', off', e3, hb', k4⟩ := hA2.at_ k2
  simp only [Option.some.injEq, Addr.mk.injEq, and_true] at e3
  obtain ⟨rfl, rfl⟩ := e3
  have j1 := ns_get l s (by omega)
  have j2 := ns_get l t (by omega)
  rw [e1] at j1
  rw [e2] at j2
  obtain ⟨g, og, rfl, hg, k5⟩ := HR1.out.at_ j1
  obtain ⟨g', og', e3, hg', k6⟩ := HR1.out.at_ j2
  simp only [Option.some.injEq, Addr.mk.injEq, and_true] at e3
  obtain ⟨rfl, rfl⟩ := e3
  clear hA2 j1 j2 hb' hg' HA HL k1 k2 e1 e2
  go_wp2_with fail
  go_quiet (fail)
  go_wp2
  go_ret
  exact ⟨by simp, quiet_low HB.out _⟩
set_option maxHeartbeats 4000000 in
theorem hof_3 (A : Option Addr) (n c s t : Nat) (w : World) (cs : List Value) (l : List Nat) (hs : s < n) (ht : t < n) (hl : l.length = n) (os ot ls lt : Nat) (p : Bool) (h1 : ((os : Int) == 0) = p) (h2 : ((ls : Int) == 0) = p) (h3 : ot < os) (h4 : lt < ls) (h5 : ot = 0) (e1 : l[s]?.getD 0 = ls) (e2 : l[t]?.getD 0 = lt) (HA : Hid (∀ V, Below w.heap.size w V → RdV V V.heap.size A cs)) (k1 : cs[s]? = some (.int .i64 (os : Int))) (k2 : cs[t]? = some (.int .i64 (ot : Int))) (HL : Hid (∀ V, Below w.heap.size w V → Calls Try.prog 16 #[.slice A n c] V (GzM V n l 0))) :
    Calls Try.prog 5 #[.slice A n c, .int .i64 (s : Int), .int .i64 (t : Int)] w fun e w' => e = .returned (.bool true) ∧ Below w.heap.size w w' := by
  have s1 : decide ((s : Int) < 0) = false := by simp
  have s2 : decide ((n : Int) ≤ (s : Int)) = false := by simp; omega
  have s3 : decide ((s : Int) ≥ (n : Int)) = false := by simp; omega
  have s4 : decide ((t : Int) < 0) = false := by simp
  have s5 : decide ((n : Int) ≤ (t : Int)) = false := by simp; omega
  have s6 : decide ((t : Int) ≥ (n : Int)) = false := by simp; omega
  have s7 : decide (n ≤ s) = false := by simp; omega
  have s8 : decide (n ≤ t) = false := by simp; omega
  have u0 : decide ((os : Int) ≤ (ot : Int)) = false := by simp; omega
  have u1 : decide (os ≤ ot) = false := by simp; omega
  have u2 : decide ((ls : Int) ≤ (lt : Int)) = false := by simp; omega
  have u3 : decide (ls ≤ lt) = false := by simp; omega
  have u4 : ((ot : Int) == 0) = true := by simp; exact h5
  clear h5
  go_enter Try.func5, Try.ntmps5
  go_wp2_with fail
  refine (HL.out _ (Below.refl _ _)).mono ?_
  rintro e w1_ ⟨A1, c1, rfl, hc1, hn1, Rq, Bq⟩
  have Sq : Below w.heap.size w w1_ := Bq
  have HB : Hid (Below w.heap.size w w1_) := Sq
  clear Bq Sq
  have HR1 := Lib.hid Rq; clear Rq
  go_wp2_with fail
  refine (huffbegun_true _).mono ?_
  rintro e w2_ ⟨rfl, Bq⟩
  have Sq : Below w1_.heap.size w1_ w2_ := Bq
  replace HR1 : Hid (RdV w2_ w2_.heap.size A1 (zc (ns l))) := HR1.out.on Sq
  replace HB : Hid (Below w.heap.size w w2_) := HB.out.trans (Sq.mono HB.out.size)
  clear Bq Sq
  have hA2 := HA.out w2_ HB.out
  obtain ⟨b, off, rfl, hb, k3⟩ := hA2.at_ k1
  obtain ⟨b', off', e3, hb', k4⟩ := hA2.at_ k2
  simp only [Option.some.injEq, Addr.mk.injEq, and_true] at e3
  obtain ⟨rfl, rfl⟩ := e3
  have j1 := ns_get l s (by omega)
  have j2 := ns_get l t (by omega)
  rw [e1] at j1
  rw [e2] at j2
  obtain ⟨g, og, rfl, hg, k5⟩ := HR1.out.at_ j1
  obtain ⟨g', og', e3, hg', k6⟩ := HR1.out.at_ j2
  simp only [Option.some.injEq, Addr.mk.injEq, and_true] at e3
  obtain ⟨rfl, rfl⟩ := e3
  clear hA2 j1 j2 hb' hg' HA HL k1 k2 e1 e2
  go_wp2_with fail
  go_quiet (fail)
  go_wp2
  go_ret
  exact ⟨by simp, quiet_low HB.out _⟩
theorem huffOften_law (A : Option Addr) (c : Nat) (xs : List Int) (s t : Int) (w : World) (hb : ∀ x ∈ xs, -9223372036854775808 ≤ x ∧ x ≤ 9223372036854775807) (h : RdV w w.heap.size A (zc xs)) (hs : xs.length ≤ 9223372036854775807) (_ : -9223372036854775808 ≤ s ∧ s ≤ 9223372036854775807) (_ : -9223372036854775808 ≤ t ∧ t ≤ 9223372036854775807) :
    Calls Try.prog 5 #[.slice A xs.length c, .int .i64 s, .int .i64 t] w fun e w' => e = .returned (.bool true) ∧ Below w.heap.size w w' := by
  have HX : ∀ V, Below w.heap.size w V → Calls Try.prog 16 #[.slice A xs.length c] V (GotZ V (hlA xs)) := fun V hV => lengths_any xs _ rfl hs A c V (h.on hV)
  by_cases h0 : (hlA xs).2 = 0
  · obtain ⟨os, rfl, h64, ho, e1, h24⟩ := hlA_zero xs h0
    rw [e1] at HX
    have hll : (hl os).length = (ns os).length := by rw [hl_length, ns_length]
    have HL : Hid (∀ V, Below w.heap.size w V → Calls Try.prog 16 #[.slice A (ns os).length c] V (GzM V (ns os).length (hl os) 0)) := fun V hV => (HX V hV).mono fun _ _ q => gzM q hll
    rcases (show s < 0 ∨ (0 ≤ s ∧ ((ns os).length : Int) ≤ s) ∨ (0 ≤ s ∧ s < ((ns os).length : Int)) by omega) with c1 | ⟨c1, c2⟩ | ⟨c1, c2⟩
    · exact hof_s0 A _ c s t w (hl os) c1 HL
    · exact hof_s1 A _ c s t w (hl os) c1 c2 HL
    · rcases (show t < 0 ∨ (0 ≤ t ∧ ((ns os).length : Int) ≤ t) ∨ (0 ≤ t ∧ t < ((ns os).length : Int)) by omega) with c3 | ⟨c3, c4⟩ | ⟨c3, c4⟩
      · exact hof_t0 A _ c s t w (hl os) c1 c2 c3 HL
      · exact hof_t1 A _ c s t w (hl os) c1 c2 c3 c4 HL
      · obtain ⟨s', rfl⟩ := Int.eq_ofNat_of_zero_le c1
        obtain ⟨t', rfl⟩ := Int.eq_ofNat_of_zero_le c3
        have hs' : s' < os.length := by rw [ns_length] at c2; omega
        have ht' : t' < os.length := by rw [ns_length] at c4; omega
        have k1 := ns_get os s' hs'
        have k2 := ns_get os t' ht'
        have p1 : oAt (hl os) s' = 0 ↔ oAt os s' = 0 := by
          have := lens_pos os s'
          rw [← hl_at os hs'] at this
          omega
        have hp : (((oAt os s' : Nat) : Int) == 0) = (((oAt (hl os) s' : Nat) : Int) == 0) := by
          by_cases hz : oAt os s' = 0
          · rw [hz, p1.2 hz]
          · have : oAt (hl os) s' ≠ 0 := fun e => hz (p1.1 e)
            have q1 : (((oAt os s' : Nat) : Int) == 0) = false := by simp; exact hz
            have q2 : (((oAt (hl os) s' : Nat) : Int) == 0) = false := by simp; exact this
            rw [q1, q2]
        have hl1 := often_le os h24 s' t' hs' ht'
        rcases (show oAt os s' ≤ oAt os t' ∨ (oAt os t' < oAt os s' ∧ oAt (hl os) s' ≤ oAt (hl os) t') ∨ (oAt os t' < oAt os s' ∧ oAt (hl os) t' < oAt (hl os) s' ∧ oAt os t' = 0) by
          by_cases q1 : oAt os s' ≤ oAt os t'
          · exact .inl q1
          · by_cases q2 : oAt os t' = 0
            · by_cases q3 : oAt (hl os) s' ≤ oAt (hl os) t'
              · exact .inr (.inl ⟨by omega, q3⟩)
              · exact .inr (.inr ⟨by omega, by omega, q2⟩)
            · exact .inr (.inl ⟨by omega, hl1 (by omega) q2⟩)) with d1 | ⟨d1, d2⟩ | ⟨d1, d2, d3⟩
        · exact hof_1 A _ c s' t' w (zc (ns os)) (hl os) (by rw [ns_length]; exact hs') (by rw [ns_length]; exact ht') hll (oAt os s') (oAt os t') (oAt (hl os) s') (oAt (hl os) t') _ hp rfl d1 rfl rfl (Lib.hid fun V hV => h.on hV) k1 k2 HL
        · exact hof_2 A _ c s' t' w (zc (ns os)) (hl os) (by rw [ns_length]; exact hs') (by rw [ns_length]; exact ht') hll (oAt os s') (oAt os t') (oAt (hl os) s') (oAt (hl os) t') _ hp rfl d1 d2 rfl rfl (Lib.hid fun V hV => h.on hV) k1 k2 HL
        · exact hof_3 A _ c s' t' w (zc (ns os)) (hl os) (by rw [ns_length]; exact hs') (by rw [ns_length]; exact ht') hll (oAt os s') (oAt os t') (oAt (hl os) s') (oAt (hl os) t') _ hp rfl d1 d2 d3 rfl rfl (Lib.hid fun V hV => h.on hV) k1 k2 HL
  · rw [hlA_err xs h0] at HX
    exact hof_e A _ c s t w _ h0 (Lib.hid fun V hV => (HX V hV).mono fun _ _ q => gzM q rfl)
end Go.Proofs.Ytndiocehkdbjkaa
