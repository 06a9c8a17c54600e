/- The law HuffMore: where a sign stands once more all cost no less, and no more than by what that sign has, if it had any; for whatever is handed in. -/
import Derived.Test.YtndiocehkdbjkaaJH6
import Derived.BigQuiet
namespace Go.Proofs.Ytndiocehkdbjkaa
set_option maxRecDepth 100000
set_option linter.unusedVariables false
open Go.RowKit Go.Shelf

theorem own_lit0z (w : World) (base : Nat) (hb : base ≤ w.heap.size) : (w.alloc (.cells #[] 3)).ownsRow base 3 1 (.slice (some ⟨w.heap.size, 0, none⟩) 0 0) 0 [] :=
  ⟨rfl, .inr ⟨w.heap.size, 0, #[], rfl, hb, World.alloc_heap_new w _, Nat.le_refl _, by decide, rfl, rfl⟩⟩
set_option maxHeartbeats 4000000 in
theorem hmo_e (A : Option Addr) (n c : Nat) (y : Int) (w : World) (e0 : Int) (h0 : e0 ≠ 0) (HL : Hid (∀ V, Below w.heap.size w V → Calls Try.prog 16 #[.slice A n c] V (GzM V 0 [] e0))) :
    Calls Try.prog 9 #[.slice A n c, .int .i64 y] w fun e w' => e = .returned (.bool true) ∧ Below w.heap.size w w' := by
  have t0 : (e0 != 0) = true := by simpa using h0
  go_enter Try.func9, Try.ntmps9
  go_wp2_with fail
  refine (HL.out _ (Below.refl _ _)).mono ?_
  rintro e w1_ ⟨A1, c1, rfl, hc1, hn1, Rq, Bq⟩
  have Sq : Below w.heap.size w w1_ := Bq
  have HB : Hid (Below w.heap.size w w1_) := Sq
  clear Bq Sq
  have HR1 := Lib.hid Rq; clear Rq
  go_wp2_with fail
  refine (huffbegun_true _).mono ?_
  rintro e w2_ ⟨rfl, Bq⟩
  have Sq : Below w1_.heap.size w1_ w2_ := Bq
  replace HR1 : Hid (RdV w2_ w2_.heap.size A1 (zc (ns []))) := HR1.out.on Sq
  replace HB : Hid (Below w.heap.size w w2_) := HB.out.trans (Sq.mono HB.out.size)
  clear Bq Sq
  go_wp2
  go_ret
  exact ⟨rfl, HB.out⟩
set_option maxHeartbeats 4000000 in
theorem hmo_l (A : Option Addr) (n c : Nat) (y : Int) (w : World) (l : List Nat) (h0 : y < 0) (HL : Hid (∀ V, Below w.heap.size w V → Calls Try.prog 16 #[.slice A n c] V (GzM V n l 0))) :
    Calls Try.prog 9 #[.slice A n c, .int .i64 y] w fun e w' => e = .returned (.bool true) ∧ Below w.heap.size w w' := by
  have t0 : decide (y < 0) = true := by simpa using h0
  go_enter Try.func9, Try.ntmps9
  go_wp2_with fail
  refine (HL.out _ (Below.refl _ _)).mono ?_
  rintro e w1_ ⟨A1, c1, rfl, hc1, hn1, Rq, Bq⟩
  have Sq : Below w.heap.size w w1_ := Bq
  have HB : Hid (Below w.heap.size w w1_) := Sq
  clear Bq Sq
  have HR1 := Lib.hid Rq; clear Rq
  go_wp2_with fail
  refine (huffbegun_true _).mono ?_
  rintro e w2_ ⟨rfl, Bq⟩
  have Sq : Below w1_.heap.size w1_ w2_ := Bq
  replace HR1 : Hid (RdV w2_ w2_.heap.size A1 (zc (ns l))) := HR1.out.on Sq
  replace HB : Hid (Below w.heap.size w w2_) := HB.out.trans (Sq.mono HB.out.size)
  clear Bq Sq
  go_wp2
  go_ret
  exact ⟨rfl, HB.out⟩
set_option maxHeartbeats 4000000 in
theorem hmo_g (A : Option Addr) (n c : Nat) (y : Int) (w : World) (l : List Nat) (h0 : 0 ≤ y) (h1 : (n : Int) ≤ y) (HL : Hid (∀ V, Below w.heap.size w V → Calls Try.prog 16 #[.slice A n c] V (GzM V n l 0))) :
    Calls Try.prog 9 #[.slice A n c, .int .i64 y] w fun e w' => e = .returned (.bool true) ∧ Below w.heap.size w w' := by
  have t0 : decide (y < 0) = false := by simp; omega
  have t1 : decide ((n : Int) ≤ y) = true := by simpa using h1
  have t2 : decide (y ≥ (n : Int)) = true := by simpa using h1
  go_enter Try.func9, Try.ntmps9
  go_wp2_with fail
  refine (HL.out _ (Below.refl _ _)).mono ?_
  rintro e w1_ ⟨A1, c1, rfl, hc1, hn1, Rq, Bq⟩
  have Sq : Below w.heap.size w w1_ := Bq
  have HB : Hid (Below w.heap.size w w1_) := Sq
  clear Bq Sq
  have HR1 := Lib.hid Rq; clear Rq
  go_wp2_with fail
  refine (huffbegun_true _).mono ?_
  rintro e w2_ ⟨rfl, Bq⟩
  have Sq : Below w1_.heap.size w1_ w2_ := Bq
  replace HR1 : Hid (RdV w2_ w2_.heap.size A1 (zc (ns l))) := HR1.out.on Sq
  replace HB : Hid (Below w.heap.size w w2_) := HB.out.trans (Sq.mono HB.out.size)
  clear Bq Sq
  go_wp2
  go_ret
  exact ⟨rfl, HB.out⟩
set_option maxHeartbeats 8000000 in
theorem hmo_3 (A : Option Addr) (n c i : Nat) (w : World) (os qs l : List Nat) (x : Nat) (hn : os.length = n) (h64 : n ≤ 64) (hi : i < n) (hx : os[i]?.getD 0 = x) (hxb : x ≤ 1048576) (hq : os.set i (x + 1) = qs) (HA : Hid (∀ V, Below w.heap.size w V → RdV V V.heap.size A (zc (ns os)))) (HL : Hid (∀ V, Below w.heap.size w V → Calls Try.prog 16 #[.slice A n c] V (GzM V n l 0)))
    (HM : Hid (∀ A5 c5 V, RdV V V.heap.size A5 (zc (ns qs)) → Calls Try.prog 16 #[.slice A5 n c5] V (GzM V 0 [] 3)))
     :
    Calls Try.prog 9 #[.slice A n c, .int .i64 (i : Int)] w fun e w' => e = .returned (.bool true) ∧ Below w.heap.size w w' := by
  obtain ⟨b, off, rfl, hb, hc⟩ := (HA.out w (Below.refl _ _)).at_ (ns_get os i (by omega))
  obtain ⟨i0, hi0, hz0, hz1, hz2⟩ := info_parts info3i
  have HN := Lib.hid hn
  have s1 : decide ((i : Int) < 0) = false := by simp
  have s2 : decide ((n : Int) ≤ (i : Int)) = false := by simp; omega
  have s3 : decide ((i : Int) ≥ (n : Int)) = false := by simp; omega
  have s4 : decide (n ≤ i) = false := by simp; omega
  obtain ⟨z, hz⟩ : ∃ z, x + 1 = z := ⟨_, rfl⟩
  have s5 : IntKind.i64.wrap ((x : Int) + 1) = (z : Int) := by rw [← hz, Int.natCast_add]; exact IntWalk.i64_in _ (by omega)
  have HGet := Lib.hid (ns_get os i (by omega))
  have HSet : Hid (zc (ns qs) = (zc (ns os)).set i (.int .i64 (z : Int))) := by show _ = _; rw [← hq, zc_nset, hz]
  rw [hx] at HGet
  clear hb hc hq hx hn hz
  go_enter Try.func9, Try.ntmps9
  go_wp2_with fail
  refine (HL.out _ (Below.refl _ _)).mono ?_
  rintro e w1_ ⟨A1, c1, rfl, hc1, hn1, Rq, Bq⟩
  have Sq : Below w.heap.size w w1_ := Bq
  have HB : Hid (Below w.heap.size w w1_) := Sq
  clear Bq Sq
  have HR1 := Lib.hid Rq; clear Rq
  go_wp2_with fail
  refine (huffbegun_true _).mono ?_
  rintro e w2_ ⟨rfl, Bq⟩
  have Sq : Below w1_.heap.size w1_ w2_ := Bq
  replace HR1 : Hid (RdV w2_ w2_.heap.size A1 (zc (ns l))) := HR1.out.on Sq
  replace HB : Hid (Below w.heap.size w w2_) := HB.out.trans (Sq.mono HB.out.size)
  clear Bq Sq
  have HRA2 : Hid (RdV w2_ w2_.heap.size (some ⟨b, off, none⟩) (zc (ns os))) := HA.out w2_ HB.out
  have HLz : Hid ((zc (ns os)).length = n) := by show _ = _; rw [zc_length, ns_length, HN.out]
  go_wp2_with (at_builtin; refine app3 rfl _ _ rfl w2_.heap.size _ 0 [] rfl (own_lit0z w2_ _ (Nat.le_refl _)) (some ⟨b, off, none⟩) n c (zc (ns os)) rfl (HRA2.out.on (one_below w2_ _)) HLz.out (zc_one _) (fun h => by cases h) (by omega) (by simp) ?_; intro v' w3 hown' hgrow; rw [List.nil_append, Nat.zero_add] at hown'; obtain ⟨g5, cp5, rfl, hg5, _⟩ := hown'.form (by omega); obtain ⟨kc, kf⟩ := own_cell hown' HGet.out)
  have HB3 : Hid (Below w2_.heap.size w2_ w3) := ((one_below w2_ (.cells #[] 3))).trans (grown_low hgrow (own_lit0z w2_ _ (Nat.le_refl _)) (by simp))
  have hset := own_set (i := i) hown' (.int .i64 (z : Int))
  rw [← HSet.out] at hset
  have HR5 := Lib.hid (own_rdv hset)
  have HB4 : Hid (Below w2_.heap.size w2_ (w3.setCell ⟨g5, i, none⟩ (.int .i64 (z : Int)))) := HB3.out.setCell (p := ⟨g5, i, none⟩) hg5 _
  clear hset hown' hgrow
  obtain ⟨w4_, hw4⟩ : ∃ w4_, w3.setCell ⟨g5, i, none⟩ (.int .i64 (z : Int)) = w4_ := ⟨_, rfl⟩
  rw [hw4] at HR5 HB4
  first | rw [hw4] | skip
  clear hw4 kc kf
  have Sq : Below w2_.heap.size w2_ w4_ := HB4.out
  replace HR1 : Hid (RdV w4_ w4_.heap.size A1 (zc (ns l))) := HR1.out.on Sq
  replace HB : Hid (Below w.heap.size w w4_) := HB.out.trans (Sq.mono HB.out.size)
  clear Sq
  refine (HM.out (some ⟨g5, 0, none⟩) _ _ HR5.out).mono ?_
  rintro e w5_ ⟨A6, c6, rfl, -, -, -, Bq⟩
  have Sq : Below w4_.heap.size w4_ w5_ := Bq
  replace HR1 : Hid (RdV w5_ w5_.heap.size A1 (zc (ns l))) := HR1.out.on Sq
  replace HR5 : Hid (RdV w5_ w5_.heap.size (some ⟨g5, 0, none⟩) (zc (ns qs))) := HR5.out.on Sq
  replace HB : Hid (Below w.heap.size w w5_) := HB.out.trans (Sq.mono HB.out.size)
  clear Bq Sq
  go_wp2
  go_ret
  exact ⟨rfl, HB.out⟩
set_option maxHeartbeats 8000000 in
theorem hmo_8 (A : Option Addr) (n c i : Nat) (w : World) (os qs l : List Nat) (x : Nat) (hn : os.length = n) (h64 : n ≤ 64) (hi : i < n) (hx : os[i]?.getD 0 = x) (hxb : x ≤ 1048576) (hq : os.set i (x + 1) = qs) (HA : Hid (∀ V, Below w.heap.size w V → RdV V V.heap.size A (zc (ns os)))) (HL : Hid (∀ V, Below w.heap.size w V → Calls Try.prog 16 #[.slice A n c] V (GzM V n l 0)))
    (HM : Hid (∀ A5 c5 V, RdV V V.heap.size A5 (zc (ns qs)) → Calls Try.prog 16 #[.slice A5 n c5] V (GzM V 0 [] 8)))
     :
    Calls Try.prog 9 #[.slice A n c, .int .i64 (i : Int)] w fun e w' => e = .returned (.bool true) ∧ Below w.heap.size w w' := by
  obtain ⟨b, off, rfl, hb, hc⟩ := (HA.out w (Below.refl _ _)).at_ (ns_get os i (by omega))
  obtain ⟨i0, hi0, hz0, hz1, hz2⟩ := info_parts info3i
  have HN := Lib.hid hn
  have s1 : decide ((i : Int) < 0) = false := by simp
  have s2 : decide ((n : Int) ≤ (i : Int)) = false := by simp; omega
  have s3 : decide ((i : Int) ≥ (n : Int)) = false := by simp; omega
  have s4 : decide (n ≤ i) = false := by simp; omega
  obtain ⟨z, hz⟩ : ∃ z, x + 1 = z := ⟨_, rfl⟩
  have s5 : IntKind.i64.wrap ((x : Int) + 1) = (z : Int) := by rw [← hz, Int.natCast_add]; exact IntWalk.i64_in _ (by omega)
  have HGet := Lib.hid (ns_get os i (by omega))
  have HSet : Hid (zc (ns qs) = (zc (ns os)).set i (.int .i64 (z : Int))) := by show _ = _; rw [← hq, zc_nset, hz]
  rw [hx] at HGet
  clear hb hc hq hx hn hz
  go_enter Try.func9, Try.ntmps9
  go_wp2_with fail
  refine (HL.out _ (Below.refl _ _)).mono ?_
  rintro e w1_ ⟨A1, c1, rfl, hc1, hn1, Rq, Bq⟩
  have Sq : Below w.heap.size w w1_ := Bq
  have HB : Hid (Below w.heap.size w w1_) := Sq
  clear Bq Sq
  have HR1 := Lib.hid Rq; clear Rq
  go_wp2_with fail
  refine (huffbegun_true _).mono ?_
  rintro e w2_ ⟨rfl, Bq⟩
  have Sq : Below w1_.heap.size w1_ w2_ := Bq
  replace HR1 : Hid (RdV w2_ w2_.heap.size A1 (zc (ns l))) := HR1.out.on Sq
  replace HB : Hid (Below w.heap.size w w2_) := HB.out.trans (Sq.mono HB.out.size)
  clear Bq Sq
  have HRA2 : Hid (RdV w2_ w2_.heap.size (some ⟨b, off, none⟩) (zc (ns os))) := HA.out w2_ HB.out
  have HLz : Hid ((zc (ns os)).length = n) := by show _ = _; rw [zc_length, ns_length, HN.out]
  go_wp2_with (at_builtin; refine app3 rfl _ _ rfl w2_.heap.size _ 0 [] rfl (own_lit0z w2_ _ (Nat.le_refl _)) (some ⟨b, off, none⟩) n c (zc (ns os)) rfl (HRA2.out.on (one_below w2_ _)) HLz.out (zc_one _) (fun h => by cases h) (by omega) (by simp) ?_; intro v' w3 hown' hgrow; rw [List.nil_append, Nat.zero_add] at hown'; obtain ⟨g5, cp5, rfl, hg5, _⟩ := hown'.form (by omega); obtain ⟨kc, kf⟩ := own_cell hown' HGet.out)
  have HB3 : Hid (Below w2_.heap.size w2_ w3) := ((one_below w2_ (.cells #[] 3))).trans (grown_low hgrow (own_lit0z w2_ _ (Nat.le_refl _)) (by simp))
  have hset := own_set (i := i) hown' (.int .i64 (z : Int))
  rw [← HSet.out] at hset
  have HR5 := Lib.hid (own_rdv hset)
  have HB4 : Hid (Below w2_.heap.size w2_ (w3.setCell ⟨g5, i, none⟩ (.int .i64 (z : Int)))) := HB3.out.setCell (p := ⟨g5, i, none⟩) hg5 _
  clear hset hown' hgrow
  obtain ⟨w4_, hw4⟩ : ∃ w4_, w3.setCell ⟨g5, i, none⟩ (.int .i64 (z : Int)) = w4_ := ⟨_, rfl⟩
  rw [hw4] at HR5 HB4
  first | rw [hw4] | skip
  clear hw4 kc kf
  have Sq : Below w2_.heap.size w2_ w4_ := HB4.out
  replace HR1 : Hid (RdV w4_ w4_.heap.size A1 (zc (ns l))) := HR1.out.on Sq
  replace HB : Hid (Below w.heap.size w w4_) := HB.out.trans (Sq.mono HB.out.size)
  clear Sq
  refine (HM.out (some ⟨g5, 0, none⟩) _ _ HR5.out).mono ?_
  rintro e w5_ ⟨A6, c6, rfl, -, -, -, Bq⟩
  have Sq : Below w4_.heap.size w4_ w5_ := Bq
  replace HR1 : Hid (RdV w5_ w5_.heap.size A1 (zc (ns l))) := HR1.out.on Sq
  replace HR5 : Hid (RdV w5_ w5_.heap.size (some ⟨g5, 0, none⟩) (zc (ns qs))) := HR5.out.on Sq
  replace HB : Hid (Below w.heap.size w w5_) := HB.out.trans (Sq.mono HB.out.size)
  clear Bq Sq
  go_wp2
  go_ret
  exact ⟨rfl, HB.out⟩
set_option maxHeartbeats 8000000 in
theorem hmo_z (A : Option Addr) (n c i : Nat) (w : World) (os qs l : List Nat) (x : Nat) (m : List Nat) (k d li : Nat) (hkd : k ≤ d) (hx0 : x = 0) (hn : os.length = n) (h64 : n ≤ 64) (hi : i < n) (hx : os[i]?.getD 0 = x) (hxb : x ≤ 1048576) (hq : os.set i (x + 1) = qs) (HA : Hid (∀ V, Below w.heap.size w V → RdV V V.heap.size A (zc (ns os)))) (HL : Hid (∀ V, Below w.heap.size w V → Calls Try.prog 16 #[.slice A n c] V (GzM V n l 0)))
    (HM : Hid (∀ A5 c5 V, RdV V V.heap.size A5 (zc (ns qs)) → Calls Try.prog 16 #[.slice A5 n c5] V (GzM V n m 0)))
    (HC1 : Hid (∀ A1 c1 V, Below w.heap.size w V → RdV V V.heap.size A1 (zc (ns l)) → Calls Try.prog 17 #[.slice A n c, .slice A1 n c1] V fun e w' => e = .returned (.tuple #[.int .i64 (k : Int), .int .i64 0]) ∧ Below V.heap.size V w'))
    (HC2 : Hid (∀ A5 c5 A6 c6 V, RdV V V.heap.size A5 (zc (ns qs)) → RdV V V.heap.size A6 (zc (ns m)) → Calls Try.prog 17 #[.slice A5 n c5, .slice A6 n c6] V fun e w' => e = .returned (.tuple #[.int .i64 (d : Int), .int .i64 0]) ∧ Below V.heap.size V w')) :
    Calls Try.prog 9 #[.slice A n c, .int .i64 (i : Int)] w fun e w' => e = .returned (.bool true) ∧ Below w.heap.size w w' := by
  obtain ⟨b, off, rfl, hb, hc⟩ := (HA.out w (Below.refl _ _)).at_ (ns_get os i (by omega))
  obtain ⟨i0, hi0, hz0, hz1, hz2⟩ := info_parts info3i
  have HN := Lib.hid hn
  have s1 : decide ((i : Int) < 0) = false := by simp
  have s2 : decide ((n : Int) ≤ (i : Int)) = false := by simp; omega
  have s3 : decide ((i : Int) ≥ (n : Int)) = false := by simp; omega
  have s4 : decide (n ≤ i) = false := by simp; omega
  obtain ⟨z, hz⟩ : ∃ z, x + 1 = z := ⟨_, rfl⟩
  have s5 : IntKind.i64.wrap ((x : Int) + 1) = (z : Int) := by rw [← hz, Int.natCast_add]; exact IntWalk.i64_in _ (by omega)
  have HGet := Lib.hid (ns_get os i (by omega))
  have HSet : Hid (zc (ns qs) = (zc (ns os)).set i (.int .i64 (z : Int))) := by show _ = _; rw [← hq, zc_nset, hz]
  rw [hx] at HGet
  have u0 : decide ((d : Int) ≥ (k : Int)) = true := by simp; omega
  have u1 : decide ((k : Int) ≤ (d : Int)) = true := by simp; omega
  have u2 : decide (k ≤ d) = true := by simp; omega
  have u3 : decide (d ≥ k) = true := by simp; omega
  have u4 : ((x : Int) == 0) = true := by simp; omega
  clear hx0
  clear hb hc hq hx hn hz
  go_enter Try.func9, Try.ntmps9
  go_wp2_with fail
  refine (HL.out _ (Below.refl _ _)).mono ?_
  rintro e w1_ ⟨A1, c1, rfl, hc1, hn1, Rq, Bq⟩
  have Sq : Below w.heap.size w w1_ := Bq
  have HB : Hid (Below w.heap.size w w1_) := Sq
  clear Bq Sq
  have HR1 := Lib.hid Rq; clear Rq
  go_wp2_with fail
  refine (huffbegun_true _).mono ?_
  rintro e w2_ ⟨rfl, Bq⟩
  have Sq : Below w1_.heap.size w1_ w2_ := Bq
  replace HR1 : Hid (RdV w2_ w2_.heap.size A1 (zc (ns l))) := HR1.out.on Sq
  replace HB : Hid (Below w.heap.size w w2_) := HB.out.trans (Sq.mono HB.out.size)
  clear Bq Sq
  have HRA2 : Hid (RdV w2_ w2_.heap.size (some ⟨b, off, none⟩) (zc (ns os))) := HA.out w2_ HB.out
  have HLz : Hid ((zc (ns os)).length = n) := by show _ = _; rw [zc_length, ns_length, HN.out]
  go_wp2_with (at_builtin; refine app3 rfl _ _ rfl w2_.heap.size _ 0 [] rfl (own_lit0z w2_ _ (Nat.le_refl _)) (some ⟨b, off, none⟩) n c (zc (ns os)) rfl (HRA2.out.on (one_below w2_ _)) HLz.out (zc_one _) (fun h => by cases h) (by omega) (by simp) ?_; intro v' w3 hown' hgrow; rw [List.nil_append, Nat.zero_add] at hown'; obtain ⟨g5, cp5, rfl, hg5, _⟩ := hown'.form (by omega); obtain ⟨kc, kf⟩ := own_cell hown' HGet.out)
  have HB3 : Hid (Below w2_.heap.size w2_ w3) := ((one_below w2_ (.cells #[] 3))).trans (grown_low hgrow (own_lit0z w2_ _ (Nat.le_refl _)) (by simp))
  have hset := own_set (i := i) hown' (.int .i64 (z : Int))
  rw [← HSet.out] at hset
  have HR5 := Lib.hid (own_rdv hset)
  have HB4 : Hid (Below w2_.heap.size w2_ (w3.setCell ⟨g5, i, none⟩ (.int .i64 (z : Int)))) := HB3.out.setCell (p := ⟨g5, i, none⟩) hg5 _
  clear hset hown' hgrow
  obtain ⟨w4_, hw4⟩ : ∃ w4_, w3.setCell ⟨g5, i, none⟩ (.int .i64 (z : Int)) = w4_ := ⟨_, rfl⟩
  rw [hw4] at HR5 HB4
  first | rw [hw4] | skip
  clear hw4 kc kf
  have Sq : Below w2_.heap.size w2_ w4_ := HB4.out
  replace HR1 : Hid (RdV w4_ w4_.heap.size A1 (zc (ns l))) := HR1.out.on Sq
  replace HB : Hid (Below w.heap.size w w4_) := HB.out.trans (Sq.mono HB.out.size)
  clear Sq
  refine (HM.out (some ⟨g5, 0, none⟩) _ _ HR5.out).mono ?_
  rintro e w5_ ⟨A6, c6, rfl, -, -, Rq, Bq⟩
  have Sq : Below w4_.heap.size w4_ w5_ := Bq
  replace HR1 : Hid (RdV w5_ w5_.heap.size A1 (zc (ns l))) := HR1.out.on Sq
  replace HR5 : Hid (RdV w5_ w5_.heap.size (some ⟨g5, 0, none⟩) (zc (ns qs))) := HR5.out.on Sq
  replace HB : Hid (Below w.heap.size w w5_) := HB.out.trans (Sq.mono HB.out.size)
  clear Bq Sq
  have HR6 := Lib.hid Rq; clear Rq
  go_wp2_with fail
  refine (HC1.out A1 c1 _ HB.out HR1.out).mono ?_
  rintro e w6_ ⟨rfl, Bq⟩
  have Sq : Below w5_.heap.size w5_ w6_ := Bq
  replace HR1 : Hid (RdV w6_ w6_.heap.size A1 (zc (ns l))) := HR1.out.on Sq
  replace HR5 : Hid (RdV w6_ w6_.heap.size (some ⟨g5, 0, none⟩) (zc (ns qs))) := HR5.out.on Sq
  replace HR6 : Hid (RdV w6_ w6_.heap.size A6 (zc (ns m))) := HR6.out.on Sq
  replace HB : Hid (Below w.heap.size w w6_) := HB.out.trans (Sq.mono HB.out.size)
  clear Bq Sq
  go_wp2_with fail
  refine (HC2.out (some ⟨g5, 0, none⟩) _ A6 c6 _ HR5.out HR6.out).mono ?_
  rintro e w7_ ⟨rfl, Bq⟩
  have Sq : Below w6_.heap.size w6_ w7_ := Bq
  replace HR1 : Hid (RdV w7_ w7_.heap.size A1 (zc (ns l))) := HR1.out.on Sq
  replace HR5 : Hid (RdV w7_ w7_.heap.size (some ⟨g5, 0, none⟩) (zc (ns qs))) := HR5.out.on Sq
  replace HR6 : Hid (RdV w7_ w7_.heap.size A6 (zc (ns m))) := HR6.out.on Sq
  replace HB : Hid (Below w.heap.size w w7_) := HB.out.trans (Sq.mono HB.out.size)
  clear Bq Sq
  have hRA7 := HA.out w7_ HB.out
  obtain ⟨b7, off7, e3, hb7, k7⟩ := hRA7.at_ HGet.out
  simp only [Option.some.injEq, Addr.mk.injEq, and_true] at e3
  obtain ⟨rfl, rfl⟩ := e3
  clear hRA7
  go_wp2_with fail
  go_ret
  exact ⟨rfl, HB.out⟩
set_option maxHeartbeats 8000000 in
theorem hmo_n (A : Option Addr) (n c i : Nat) (w : World) (os qs l : List Nat) (x : Nat) (m : List Nat) (k d li : Nat) (hkd : k ≤ d) (hx0 : x ≠ 0) (hdl : d ≤ k + li) (hkb : k + li ≤ 1000000000000) (hl : l.length = n) (e1 : l[i]?.getD 0 = li) (hn : os.length = n) (h64 : n ≤ 64) (hi : i < n) (hx : os[i]?.getD 0 = x) (hxb : x ≤ 1048576) (hq : os.set i (x + 1) = qs) (HA : Hid (∀ V, Below w.heap.size w V → RdV V V.heap.size A (zc (ns os)))) (HL : Hid (∀ V, Below w.heap.size w V → Calls Try.prog 16 #[.slice A n c] V (GzM V n l 0)))
    (HM : Hid (∀ A5 c5 V, RdV V V.heap.size A5 (zc (ns qs)) → Calls Try.prog 16 #[.slice A5 n c5] V (GzM V n m 0)))
    (HC1 : Hid (∀ A1 c1 V, Below w.heap.size w V → RdV V V.heap.size A1 (zc (ns l)) → Calls Try.prog 17 #[.slice A n c, .slice A1 n c1] V fun e w' => e = .returned (.tuple #[.int .i64 (k : Int), .int .i64 0]) ∧ Below V.heap.size V w'))
    (HC2 : Hid (∀ A5 c5 A6 c6 V, RdV V V.heap.size A5 (zc (ns qs)) → RdV V V.heap.size A6 (zc (ns m)) → Calls Try.prog 17 #[.slice A5 n c5, .slice A6 n c6] V fun e w' => e = .returned (.tuple #[.int .i64 (d : Int), .int .i64 0]) ∧ Below V.heap.size V w')) :
    Calls Try.prog 9 #[.slice A n c, .int .i64 (i : Int)] w fun e w' => e = .returned (.bool true) ∧ Below w.heap.size w w' := by
  obtain ⟨b, off, rfl, hb, hc⟩ := (HA.out w (Below.refl _ _)).at_ (ns_get os i (by omega))
  obtain ⟨i0, hi0, hz0, hz1, hz2⟩ := info_parts info3i
  have HN := Lib.hid hn
  have s1 : decide ((i : Int) < 0) = false := by simp
  have s2 : decide ((n : Int) ≤ (i : Int)) = false := by simp; omega
  have s3 : decide ((i : Int) ≥ (n : Int)) = false := by simp; omega
  have s4 : decide (n ≤ i) = false := by simp; omega
  obtain ⟨z, hz⟩ : ∃ z, x + 1 = z := ⟨_, rfl⟩
  have s5 : IntKind.i64.wrap ((x : Int) + 1) = (z : Int) := by rw [← hz, Int.natCast_add]; exact IntWalk.i64_in _ (by omega)
  have HGet := Lib.hid (ns_get os i (by omega))
  have HSet : Hid (zc (ns qs) = (zc (ns os)).set i (.int .i64 (z : Int))) := by show _ = _; rw [← hq, zc_nset, hz]
  rw [hx] at HGet
  have u0 : decide ((d : Int) ≥ (k : Int)) = true := by simp; omega
  have u1 : decide ((k : Int) ≤ (d : Int)) = true := by simp; omega
  have u2 : decide (k ≤ d) = true := by simp; omega
  have u3 : decide (d ≥ k) = true := by simp; omega
  have u4 : ((x : Int) == 0) = false := by simp; omega
  have u5 : IntKind.i64.wrap ((k : Int) + (li : Int)) = ((k + li : Nat) : Int) := by rw [Int.natCast_add]; exact IntWalk.i64_in _ (by omega)
  have u6 : decide ((d : Int) ≤ ((k + li : Nat) : Int)) = true := by simp; omega
  have u7 : decide (d ≤ k + li) = true := by simpa using hdl
  have u8 : decide ((d : Int) ≤ (k : Int) + (li : Int)) = true := by simp; omega
  clear hb hc hq hx hn hz
  go_enter Try.func9, Try.ntmps9
  go_wp2_with fail
  refine (HL.out _ (Below.refl _ _)).mono ?_
  rintro e w1_ ⟨A1, c1, rfl, hc1, hn1, Rq, Bq⟩
  have Sq : Below w.heap.size w w1_ := Bq
  have HB : Hid (Below w.heap.size w w1_) := Sq
  clear Bq Sq
  have HR1 := Lib.hid Rq; clear Rq
  go_wp2_with fail
  refine (huffbegun_true _).mono ?_
  rintro e w2_ ⟨rfl, Bq⟩
  have Sq : Below w1_.heap.size w1_ w2_ := Bq
  replace HR1 : Hid (RdV w2_ w2_.heap.size A1 (zc (ns l))) := HR1.out.on Sq
  replace HB : Hid (Below w.heap.size w w2_) := HB.out.trans (Sq.mono HB.out.size)
  clear Bq Sq
  have HRA2 : Hid (RdV w2_ w2_.heap.size (some ⟨b, off, none⟩) (zc (ns os))) := HA.out w2_ HB.out
  have HLz : Hid ((zc (ns os)).length = n) := by show _ = _; rw [zc_length, ns_length, HN.out]
  go_wp2_with (at_builtin; refine app3 rfl _ _ rfl w2_.heap.size _ 0 [] rfl (own_lit0z w2_ _ (Nat.le_refl _)) (some ⟨b, off, none⟩) n c (zc (ns os)) rfl (HRA2.out.on (one_below w2_ _)) HLz.out (zc_one _) (fun h => by cases h) (by omega) (by simp) ?_; intro v' w3 hown' hgrow; rw [List.nil_append, Nat.zero_add] at hown'; obtain ⟨g5, cp5, rfl, hg5, _⟩ := hown'.form (by omega); obtain ⟨kc, kf⟩ := own_cell hown' HGet.out)
  have HB3 : Hid (Below w2_.heap.size w2_ w3) := ((one_below w2_ (.cells #[] 3))).trans (grown_low hgrow (own_lit0z w2_ _ (Nat.le_refl _)) (by simp))
  have hset := own_set (i := i) hown' (.int .i64 (z : Int))
  rw [← HSet.out] at hset
  have HR5 := Lib.hid (own_rdv hset)
  have HB4 : Hid (Below w2_.heap.size w2_ (w3.setCell ⟨g5, i, none⟩ (.int .i64 (z : Int)))) := HB3.out.setCell (p := ⟨g5, i, none⟩) hg5 _
  clear hset hown' hgrow
  obtain ⟨w4_, hw4⟩ : ∃ w4_, w3.setCell ⟨g5, i, none⟩ (.int .i64 (z : Int)) = w4_ := ⟨_, rfl⟩
  rw [hw4] at HR5 HB4
  first | rw [hw4] | skip
  clear hw4 kc kf
  have Sq : Below w2_.heap.size w2_ w4_ := HB4.out
  replace HR1 : Hid (RdV w4_ w4_.heap.size A1 (zc (ns l))) := HR1.out.on Sq
  replace HB : Hid (Below w.heap.size w w4_) := HB.out.trans (Sq.mono HB.out.size)
  clear Sq
  refine (HM.out (some ⟨g5, 0, none⟩) _ _ HR5.out).mono ?_
  rintro e w5_ ⟨A6, c6, rfl, -, -, Rq, Bq⟩
  have Sq : Below w4_.heap.size w4_ w5_ := Bq
  replace HR1 : Hid (RdV w5_ w5_.heap.size A1 (zc (ns l))) := HR1.out.on Sq
  replace HR5 : Hid (RdV w5_ w5_.heap.size (some ⟨g5, 0, none⟩) (zc (ns qs))) := HR5.out.on Sq
  replace HB : Hid (Below w.heap.size w w5_) := HB.out.trans (Sq.mono HB.out.size)
  clear Bq Sq
  have HR6 := Lib.hid Rq; clear Rq
  go_wp2_with fail
  refine (HC1.out A1 c1 _ HB.out HR1.out).mono ?_
  rintro e w6_ ⟨rfl, Bq⟩
  have Sq : Below w5_.heap.size w5_ w6_ := Bq
  replace HR1 : Hid (RdV w6_ w6_.heap.size A1 (zc (ns l))) := HR1.out.on Sq
  replace HR5 : Hid (RdV w6_ w6_.heap.size (some ⟨g5, 0, none⟩) (zc (ns qs))) := HR5.out.on Sq
  replace HR6 : Hid (RdV w6_ w6_.heap.size A6 (zc (ns m))) := HR6.out.on Sq
  replace HB : Hid (Below w.heap.size w w6_) := HB.out.trans (Sq.mono HB.out.size)
  clear Bq Sq
  go_wp2_with fail
  refine (HC2.out (some ⟨g5, 0, none⟩) _ A6 c6 _ HR5.out HR6.out).mono ?_
  rintro e w7_ ⟨rfl, Bq⟩
  have Sq : Below w6_.heap.size w6_ w7_ := Bq
  replace HR1 : Hid (RdV w7_ w7_.heap.size A1 (zc (ns l))) := HR1.out.on Sq
  replace HR5 : Hid (RdV w7_ w7_.heap.size (some ⟨g5, 0, none⟩) (zc (ns qs))) := HR5.out.on Sq
  replace HR6 : Hid (RdV w7_ w7_.heap.size A6 (zc (ns m))) := HR6.out.on Sq
  replace HB : Hid (Below w.heap.size w w7_) := HB.out.trans (Sq.mono HB.out.size)
  clear Bq Sq
  have hRA7 := HA.out w7_ HB.out
  obtain ⟨b7, off7, e3, hb7, k7⟩ := hRA7.at_ HGet.out
  simp only [Option.some.injEq, Addr.mk.injEq, and_true] at e3
  obtain ⟨rfl, rfl⟩ := e3
  have j1 := ns_get l i (by omega)
  rw [e1] at j1
  obtain ⟨g7, og7, rfl, hg7, k8⟩ := HR1.out.at_ j1
  clear e1 j1
  clear hRA7
  go_wp2_with fail
  go_ret
  exact ⟨rfl, HB.out⟩
theorem huffMore_law (A : Option Addr) (c : Nat) (xs : List Int) (y : Int) (w : World) (hb : ∀ x ∈ xs, -9223372036854775808 ≤ x ∧ x ≤ 9223372036854775807) (h : RdV w w.heap.size A (zc xs)) (hs : xs.length ≤ 9223372036854775807) (_ : -9223372036854775808 ≤ y ∧ y ≤ 9223372036854775807) :
    Calls Try.prog 9 #[.slice A xs.length c, .int .i64 y] w fun e w' => e = .returned (.bool true) ∧ Below w.heap.size w w' := by
  have HX : ∀ V, Below w.heap.size w V → Calls Try.prog 16 #[.slice A xs.length c] V (GotZ V (hlA xs)) := fun V hV => lengths_any xs _ rfl hs A c V (h.on hV)
  by_cases h0 : (hlA xs).2 = 0
  · obtain ⟨os, rfl, h64, ho, e1, h24⟩ := hlA_zero xs h0
    rw [e1] at HX
    rw [ns_length] at hs HX ⊢
    have hll : (hl os).length = os.length := hl_length os
    have HL : Hid (∀ V, Below w.heap.size w V → Calls Try.prog 16 #[.slice A os.length c] V (GzM V os.length (hl os) 0)) := fun V hV => (HX V hV).mono fun _ _ q => gzM q hll
    rcases (show y < 0 ∨ (0 ≤ y ∧ (os.length : Int) ≤ y) ∨ (0 ≤ y ∧ y < (os.length : Int)) by omega) with c1 | ⟨c1, c2⟩ | ⟨c1, c2⟩
    · exact hmo_l A _ c y w (hl os) c1 HL
    · exact hmo_g A _ c y w (hl os) c1 c2 HL
    · obtain ⟨i, rfl⟩ := Int.eq_ofNat_of_zero_le c1
      have hi : i < os.length := by omega
      have hxb := ho _ (at_mem os i hi)
      obtain ⟨x, hx⟩ : ∃ x, os[i]?.getD 0 = x := ⟨_, rfl⟩
      have hoa : oAt os i = x := hx
      rw [hx] at hxb
      obtain ⟨qs, hq⟩ : ∃ qs, os.set i (x + 1) = qs := ⟨_, rfl⟩
      have hql : qs.length = os.length := by rw [← hq, List.length_set]
      have HA : Hid (∀ V, Below w.heap.size w V → RdV V V.heap.size A (zc (ns os))) := Lib.hid fun V hV => h.on hV
      have HM : ∀ A5 c5 V, RdV V V.heap.size A5 (zc (ns qs)) → Calls Try.prog 16 #[.slice A5 os.length c5] V (GotZ V (hlA (ns qs))) := fun A5 c5 V hR => lengths_any (ns qs) os.length (by rw [ns_length, hql]) hs A5 c5 V hR
      by_cases hof : ofE (ns qs) = 0
      · have hqb : ∀ x ∈ qs, x ≤ 1048576 := by
          obtain ⟨q, hq2, hqb⟩ := ofE_zero _ hof
          have : qs = q := by have := congrArg (List.map Int.toNat) hq2; rwa [ns_nat, ns_nat] at this
          rw [this]; exact hqb
        rw [hlA_nat qs (by omega) hqb] at HM
        rcases lnA_two qs with ⟨_, e2, h24'⟩ | e2
        · rw [e2] at HM
          have hC := coE_hl os h64 ho h24
          have hC' := coE_hl qs (by omega) hqb h24'
          have hge := more_ge os i hi (by rw [hoa, hq]; exact h24')
          rw [hoa, hq] at hge
          have H1 : ∀ A1 c1 V, Below w.heap.size w V → RdV V V.heap.size A1 (zc (ns (hl os))) → Calls Try.prog 17 #[.slice A os.length c, .slice A1 os.length c1] V fun e w' => e = .returned (.tuple #[.int .i64 ((dot os (hl os) : Nat) : Int), .int .i64 0]) ∧ Below V.heap.size V w' := fun A1 c1 V hV hR => by
            have := cost_any (ns os) (ns (hl os)) os.length os.length (ns_length os) (by rw [ns_length, hll]) hs hs A A1 c c1 V (h.on hV) hR
            rwa [hC.1, hC.2] at this
          have H2 : ∀ A5 c5 A6 c6 V, RdV V V.heap.size A5 (zc (ns qs)) → RdV V V.heap.size A6 (zc (ns (hl qs))) → Calls Try.prog 17 #[.slice A5 os.length c5, .slice A6 os.length c6] V fun e w' => e = .returned (.tuple #[.int .i64 ((dot qs (hl qs) : Nat) : Int), .int .i64 0]) ∧ Below V.heap.size V w' := fun A5 c5 A6 c6 V hR hS => by
            have := cost_any (ns qs) (ns (hl qs)) os.length os.length (by rw [ns_length, hql]) (by rw [ns_length, hl_length, hql]) hs hs A5 A6 c5 c6 V hR hS
            rwa [hC'.1, hC'.2] at this
          have HMM : Hid (∀ A5 c5 V, RdV V V.heap.size A5 (zc (ns qs)) → Calls Try.prog 16 #[.slice A5 os.length c5] V (GzM V os.length (hl qs) 0)) := Lib.hid fun A5 c5 V hR => (HM A5 c5 V hR).mono fun _ _ q => gzM q (by rw [hl_length, hql])
          by_cases hx0 : x = 0
          · exact hmo_z A _ c i w os qs (hl os) x (hl qs) (dot os (hl os)) (dot qs (hl qs)) 0 hge hx0 rfl h64 hi hx hxb hq HA HL HMM (Lib.hid H1) (Lib.hid H2)
          · have hle := more_le os i hi (by rw [hoa]; exact hx0) h24
            rw [hoa, hq] at hle
            have hbd := dot_bd os (hl os) ho h24
            have hli : oAt (hl os) i ≤ 24 := h24 _ (at_mem (hl os) i (by rw [hll]; exact hi))
            have hbd2 : os.length * 25165824 ≤ 64 * 25165824 := Nat.mul_le_mul h64 (Nat.le_refl _)
            exact hmo_n A _ c i w os qs (hl os) x (hl qs) (dot os (hl os)) (dot qs (hl qs)) (oAt (hl os) i) hge hx0 hle (by omega) hll rfl rfl h64 hi hx hxb hq HA HL HMM (Lib.hid H1) (Lib.hid H2)
        · rw [e2] at HM
          exact hmo_8 A _ c i w os qs (hl os) x rfl h64 hi hx hxb hq HA HL (Lib.hid fun A5 c5 V hR => (HM A5 c5 V hR).mono fun _ _ q => gzM q rfl)
      · have e2 : hlA (ns qs) = ([], 3) := by
          unfold hlA
          rw [if_neg (by rw [ns_length]; omega), if_pos hof]
          rcases ofE_or (ns qs) with h | h
          · exact absurd h hof
          · rw [h]
        rw [e2] at HM
        exact hmo_3 A _ c i w os qs (hl os) x rfl h64 hi hx hxb hq HA HL (Lib.hid fun A5 c5 V hR => (HM A5 c5 V hR).mono fun _ _ q => gzM q rfl)
  · rw [hlA_err xs h0] at HX
    exact hmo_e A _ c y w _ h0 (Lib.hid fun V hV => (HX V hV).mono fun _ _ q => gzM q rfl)
end Go.Proofs.Ytndiocehkdbjkaa
