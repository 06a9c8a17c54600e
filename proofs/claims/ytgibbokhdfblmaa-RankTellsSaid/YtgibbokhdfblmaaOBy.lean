/- What By answers, for whatever bits, index and place it is handed; no condition but those that each fact names. -/
import Derived.Test.YtgibbokhdfblmaaOChk
namespace Go.Proofs.Ytgibbokhdfblmaa
set_option maxRecDepth 100000
set_option linter.unusedVariables false
open Go.RowKit Go.Shelf

/-- What is wrong with bits, an index and a place. -/
def byE (len : Int) (bs : List Nat) (ev : Int) (xs : List Int) (p : Int) : Int := rgE (ckI len bs ev xs) [decide (0 ≤ p), decide (p ≤ len)]
set_option maxHeartbeats 4000000 in
theorem by_e (len : Int) (A : Option Addr) (c : Nat) (bs : List Nat) (hb : ∀ b ∈ bs, b < 256) (ev : Int) (xs : List Int) (hx : xs.length ≤ 9223372036854775807) (A2 : Option Addr) (c2 : Nat) (p e0 : Int) (he : byE len bs ev xs p = e0) (h0 : e0 ≠ 0) (w : World) (h : Rd w w.heap.size A bs) (h2 : RdV w w.heap.size A2 (zc xs)) :
    Calls Try.prog 31 #[.agg #[.int .i64 len, .slice A bs.length c], .agg #[.int .i64 ev, .slice A2 xs.length c2], .int .i64 p] w (RkP w 0 e0) := by
  have HC : Hid (∀ V, Below w.heap.size w V → Calls Try.prog 39 #[.agg #[.int .i64 len, .slice A bs.length c], .agg #[.int .i64 ev, .slice A2 xs.length c2]] V fun e w' => e = .returned (.int .i64 (ckI len bs ev xs)) ∧ Below V.heap.size V w') := fun V hV => rcheck_ix len A c bs hb ev xs hx A2 c2 V (h.on hV) (h2.on hV)
  unfold byE at he
  have t0 : (e0 != 0) = true := by simpa using h0
  clear h h0 hb h2 hx
  generalize ckI len bs ev xs = ec at *
  generalize bs.length = N at *
  generalize xs.length = n2 at *
  have HR := Lib.hid (range2 ec (decide (0 ≤ p)) (decide (p ≤ len)) e0 he)
  have HE : Hid (rgE ec [decide (0 ≤ p), decide (p ≤ len)] = e0) := he
  clear he
  go_enter Try.func31, Try.ntmps31
  go_wp2_with fail
  have hlow : Below w.heap.size w ((w.alloc (.cells #[.int .i64 len, .slice A N c] 25)).alloc (.cells #[.int .i64 ev, .slice A2 n2 c2] 45)) := up2 w _ _
  have hsz : ((w.alloc (.cells #[.int .i64 len, .slice A N c] 25)).alloc (.cells #[.int .i64 ev, .slice A2 n2 c2] 45)).heap.size = w.heap.size + 2 := two_size w _ _
  have hb : ((w.alloc (.cells #[.int .i64 len, .slice A N c] 25)).alloc (.cells #[.int .i64 ev, .slice A2 n2 c2] 45)).heap[w.heap.size]? = some (.cells #[.int .i64 len, .slice A N c] 25 (0, 0)) := (Below.heap_alloc _ _ _ (by simp)).trans (World.alloc_heap_new w _)
  have hr : ((w.alloc (.cells #[.int .i64 len, .slice A N c] 25)).alloc (.cells #[.int .i64 ev, .slice A2 n2 c2] 45)).heap[w.heap.size + 1]? = some (.cells #[.int .i64 ev, .slice A2 n2 c2] 45 (0, 0)) := two_new w _ _
  generalize ((w.alloc (.cells #[.int .i64 len, .slice A N c] 25)).alloc (.cells #[.int .i64 ev, .slice A2 n2 c2] 45)) = V0 at *
  have HV := Lib.hid hlow
  have HVz := Lib.hid hsz
  have HK : Hid (∀ w' : World, Below V0.heap.size V0 w' → w'.cell? ⟨w.heap.size, 0, none⟩ = some (.int .i64 len) ∧ w'.cell? ⟨w.heap.size, 1, none⟩ = some (.slice A N c) ∧ w'.cell? ⟨w.heap.size + 1, 0, none⟩ = some (.int .i64 ev) ∧ w'.cell? ⟨w.heap.size + 1, 1, none⟩ = some (.slice A2 n2 c2)) := fun w' h => by
    obtain ⟨h1, h2, -, -⟩ := cells2 ((h.block _ (by omega)).trans hb)
    obtain ⟨h3, h4, -, -⟩ := cells2 ((h.block _ (by omega)).trans hr)
    exact ⟨h1, h2, h3, h4⟩
  clear hb hr hsz hlow
  go_region_held3 (fun w' => w'.cell? ⟨w.heap.size, 0, none⟩ = some (.int .i64 len) ∧ w'.cell? ⟨w.heap.size, 1, none⟩ = some (.slice A N c) ∧ w'.cell? ⟨w.heap.size + 1, 0, none⟩ = some (.int .i64 ev) ∧ w'.cell? ⟨w.heap.size + 1, 1, none⟩ = some (.slice A2 n2 c2))
    ((refine HK.out _ ?_; first | exact hk2.out | exact hk1.out.trans ((one_below _ _).mono hk1.out.size) | exact hk1.out | exact (one_below _ _).drew | exact (Below.refl _ _).drew))
    (first
      | (go_at_call 61; have hx := hsl.out; refine (range_any ec [(decide (0 ≤ p)), (decide (p ≤ len))] 2 rfl (by decide) _ _ w5 hx).mono ?_; rintro e w6 ⟨rfl, hw⟩; have hk2 : Hid (Below V0.heap.size V0 w6) := hw ▸ hk1.out; clear hx hw hsl; rw [HE.out])
      | (go_at_call 61; have hx := hk1.out; refine (HR.out w5 _ rfl).mono ?_; rintro e w6 ⟨rfl, B2⟩; have hk2 : Hid (Below V0.heap.size V0 w6) := hx.trans (B2.mono hx.size); clear B2 hx)
      | (go_at_call 39; refine (HC.out V0.drew (HV.out.drew)).mono ?_; rintro e w5 ⟨rfl, B5⟩; have hk1 : Hid (Below V0.heap.size V0 w5) := ((Below.refl _ V0).drew).trans B5; clear B5)
      | (go_at_call 39; refine (HC.out _ (HV.out.trans ((one_below V0 (.cells #[.bool (decide (0 ≤ p)), .bool (decide (p ≤ len))] 4)).drew.mono HV.out.size))).mono ?_; rintro e w5 ⟨rfl, B5⟩; have hk1 : Hid (Below V0.heap.size V0 w5) := ((one_below V0 (.cells #[.bool (decide (0 ≤ p)), .bool (decide (p ≤ len))] 4)).drew).trans (B5.mono (by simp)); have hsl : Hid (RdV w5 w5.heap.size (some ⟨V0.heap.size, 0, none⟩) (cc [(decide (0 ≤ p)), (decide (p ≤ len))])) := (rdv_drew (rdv_cc V0 [(decide (0 ≤ p)), (decide (p ≤ len))])).on B5; clear B5))
  all_goals (
    have HB2 : Hid (Below w.heap.size w w6) := HV.out.trans (hk2.out.mono HV.out.size)
    clear HK hk2 hk1
    go_wp2
    go_ret2
    exact ⟨rfl, HB2.out⟩)
set_option maxHeartbeats 4000000 in
theorem by_ok (l : List Bool) (hl : l.length ≤ 8192) (A : Option Addr) (c e : Nat) (he1 : 1 ≤ e) (he2 : e ≤ 64) (A2 : Option Addr) (c2 q : Nat) (hq : q ≤ l.length) (w : World) (h : Rd w w.heap.size A (pack l)) (h2 : RdV w w.heap.size A2 (zc (ns (bx l e)))) :
    Calls Try.prog 31 #[.agg #[.int .i64 (l.length : Int), .slice A (pack l).length c], .agg #[.int .i64 (e : Int), .slice A2 (ns (bx l e)).length c2], .int .i64 (q : Int)] w (RkP w (cnt (l.take q)) 0) := by
  have hck : ckI (l.length : Int) (pack l) (e : Int) (ns (bx l e)) = 0 := by
    have hbd : bdE (l.length : Int) (pack l) (e : Int) = 0 := by
      unfold bdE
      rw [chk_pack l hl, show decide ((1 : Int) ≤ (e : Int)) = true by simp; omega, show decide ((e : Int) ≤ 64) = true by simp; omega]; rfl
    unfold ckI bdX
    rw [if_pos hbd, if_pos hbd, Int.toNat_natCast, Int.toNat_natCast, unpack_pack, if_pos rfl]
  have HC0 : ∀ V, Below w.heap.size w V → Calls Try.prog 39 #[.agg #[.int .i64 (l.length : Int), .slice A (pack l).length c], .agg #[.int .i64 (e : Int), .slice A2 (ns (bx l e)).length c2]] V fun e w' => e = .returned (.int .i64 0) ∧ Below V.heap.size V w' := fun V hV => by
    have := rcheck_ix (l.length : Int) A c (pack l) (pack_lt l) (e : Int) (ns (bx l e)) (by rw [ns_length, bx_length]; have := Nat.div_le_self l.length e; omega) A2 c2 V (h.on hV) (h2.on hV)
    rwa [hck] at this
  have HC := Lib.hid HC0; clear HC0 hck
  obtain ⟨i, hi⟩ : ∃ i, q / e = i := ⟨_, rfl⟩
  obtain ⟨s, hs⟩ : ∃ s, i * e = s := ⟨_, rfl⟩
  have hsq : s ≤ q := by rw [← hs, ← hi]; exact Nat.div_mul_le_self _ _
  have hib : i ≤ l.length / e := by rw [← hi]; exact Nat.div_le_div_right hq
  have hil : i < (ns (bx l e)).length := by rw [ns_length, bx_length]; omega
  have hcm := cnt_take_mono l s q hsq
  have hcl : cnt (l.take q) ≤ 8192 := Nat.le_trans (cnt_take_all l _) (Nat.le_trans (cnt_le l) hl)
  have hget : (bx l e)[i]?.getD 0 = cnt (l.take s) := by rw [bx_get l e i hib, hs]; rfl
  have HN : Hid (∀ V, Below w.heap.size w V → Calls Try.prog 62 #[.agg #[.int .i64 (l.length : Int), .slice A (pack l).length c], .int .i64 (s : Int), .int .i64 (q : Int)] V fun e w' => e = .returned (.int .i64 ((cnt (l.take q) - cnt (l.take s) : Nat) : Int)) ∧ Below V.heap.size V w') := fun V hV => count_on l hl A c s q hsq hq V (h.on hV)
  obtain ⟨b2, o2, hA2, hb2, hc2⟩ := h2.at_ (ns_get (bx l e) i (by rw [ns_length] at hil; exact hil))
  rw [hget] at hc2
  subst hA2
  have HC2 : Hid (∀ V, Below w.heap.size w V → V.cell? ⟨b2, o2 + i, none⟩ = some (.int .i64 ((cnt (l.take s) : Nat) : Int))) := fun V hV => (hV.cell (p := ⟨b2, o2 + i, none⟩) hb2).trans hc2
  generalize cnt (l.take q) = r at *
  generalize cnt (l.take s) = a at *
  obtain ⟨d, hd⟩ : ∃ d, r - a = d := ⟨_, rfl⟩
  rw [hd] at HN
  have hr : (a : Int) + (d : Int) = (r : Int) := by omega
  have hi64 : i ≤ 8192 := by have := Nat.div_le_self l.length e; omega
  have hdiv : ((q : Int)).tdiv (e : Int) = (i : Int) := by rw [Int.tdiv_eq_ediv_of_nonneg (by omega), ← hi]; simp
  have hdiv2 : (q : Int) / (e : Int) = (i : Int) := by rw [← hi]; simp
  have hdn : q / e = i := hi
  have hne : ¬ (e : Int) = 0 := by omega
  have hne2 : ¬ e = 0 := by omega
  have hmul : (i : Int) * (e : Int) = (s : Int) := by rw [← hs]; simp
  have hi1 : (0 : Int) ≤ (i : Int) := by omega
  have hi2 : (i : Int) < ((ns (bx l e)).length : Int) := by omega
  have hi3 : ((i : Int)).toNat = i := by omega
  have hs8 : s ≤ 8192 := by omega
  have hwr : IntKind.i64.wrap ((a : Int) + (d : Int)) = (r : Int) := by rw [hr, IntKind.wrap_i64]; omega
  clear hr
  have hws : IntKind.i64.wrap (s : Int) = (s : Int) := by rw [IntKind.wrap_i64]; omega
  have t1 : decide ((0 : Int) ≤ (q : Int)) = true := by simp
  have t2 : decide ((q : Int) ≤ (l.length : Int)) = true := by simp; omega
  have t3 : decide (q ≤ l.length) = true := by simpa using hq
  have HR := Lib.hid (range2 0 true true 0 (by decide))
  have HE : Hid (rgE 0 [true, true] = 0) := (by decide : rgE 0 [true, true] = 0)
  clear h h2 hi hs hsq hib hcm hget hc2 hb2 hd
  generalize (ns (bx l e)).length = n2 at *
  generalize (pack l).length = N at *
  generalize l.length = ln at *
  clear hl hq
  obtain ⟨len, hlen⟩ : ∃ len : Int, (ln : Int) = len := ⟨_, rfl⟩
  rw [hlen] at HC HN t2 ⊢
  clear hlen t3
  go_enter Try.func31, Try.ntmps31
  go_wp2_with fail
  have hlow : Below w.heap.size w ((w.alloc (.cells #[.int .i64 len, .slice A N c] 25)).alloc (.cells #[.int .i64 (e : Int), .slice (some ⟨b2, o2, none⟩) n2 c2] 45)) := up2 w _ _
  have hsz : ((w.alloc (.cells #[.int .i64 len, .slice A N c] 25)).alloc (.cells #[.int .i64 (e : Int), .slice (some ⟨b2, o2, none⟩) n2 c2] 45)).heap.size = w.heap.size + 2 := two_size w _ _
  have hb : ((w.alloc (.cells #[.int .i64 len, .slice A N c] 25)).alloc (.cells #[.int .i64 (e : Int), .slice (some ⟨b2, o2, none⟩) n2 c2] 45)).heap[w.heap.size]? = some (.cells #[.int .i64 len, .slice A N c] 25 (0, 0)) := (Below.heap_alloc _ _ _ (by simp)).trans (World.alloc_heap_new w _)
  have hr : ((w.alloc (.cells #[.int .i64 len, .slice A N c] 25)).alloc (.cells #[.int .i64 (e : Int), .slice (some ⟨b2, o2, none⟩) n2 c2] 45)).heap[w.heap.size + 1]? = some (.cells #[.int .i64 (e : Int), .slice (some ⟨b2, o2, none⟩) n2 c2] 45 (0, 0)) := two_new w _ _
  generalize ((w.alloc (.cells #[.int .i64 len, .slice A N c] 25)).alloc (.cells #[.int .i64 (e : Int), .slice (some ⟨b2, o2, none⟩) n2 c2] 45)) = V0 at *
  have HV := Lib.hid hlow
  have HVz := Lib.hid hsz
  have HK : Hid (∀ w' : World, Below V0.heap.size V0 w' → w'.cell? ⟨w.heap.size, 0, none⟩ = some (.int .i64 len) ∧ w'.cell? ⟨w.heap.size, 1, none⟩ = some (.slice A N c) ∧ w'.cell? ⟨w.heap.size + 1, 0, none⟩ = some (.int .i64 (e : Int)) ∧ w'.cell? ⟨w.heap.size + 1, 1, none⟩ = some (.slice (some ⟨b2, o2, none⟩) n2 c2)) := fun w' h => by
    obtain ⟨h1, h2, -, -⟩ := cells2 ((h.block _ (by omega)).trans hb)
    obtain ⟨h3, h4, -, -⟩ := cells2 ((h.block _ (by omega)).trans hr)
    exact ⟨h1, h2, h3, h4⟩
  clear hb hr hsz hlow
  go_region_held3 (fun w' => w'.cell? ⟨w.heap.size, 0, none⟩ = some (.int .i64 len) ∧ w'.cell? ⟨w.heap.size, 1, none⟩ = some (.slice A N c) ∧ w'.cell? ⟨w.heap.size + 1, 0, none⟩ = some (.int .i64 (e : Int)) ∧ w'.cell? ⟨w.heap.size + 1, 1, none⟩ = some (.slice (some ⟨b2, o2, none⟩) n2 c2))
    ((refine HK.out _ ?_; first | exact hk2.out | exact hk1.out.trans ((one_below _ _).mono hk1.out.size) | exact hk1.out | exact (one_below _ _).drew | exact (Below.refl _ _).drew))
    (first
      | (go_at_call 61; have hx := hsl.out; refine (range_any 0 [(true), (true)] 2 rfl (by decide) _ _ w5 hx).mono ?_; rintro e w6 ⟨rfl, hw⟩; have hk2 : Hid (Below V0.heap.size V0 w6) := hw ▸ hk1.out; clear hx hw hsl; rw [HE.out])
      | (go_at_call 61; have hx := hk1.out; refine (HR.out w5 _ rfl).mono ?_; rintro e w6 ⟨rfl, B2⟩; have hk2 : Hid (Below V0.heap.size V0 w6) := hx.trans (B2.mono hx.size); clear B2 hx)
      | (go_at_call 39; refine (HC.out V0.drew (HV.out.drew)).mono ?_; rintro e w5 ⟨rfl, B5⟩; have hk1 : Hid (Below V0.heap.size V0 w5) := ((Below.refl _ V0).drew).trans B5; clear B5)
      | (go_at_call 39; refine (HC.out _ (HV.out.trans ((one_below V0 (.cells #[.bool (true), .bool (true)] 4)).drew.mono HV.out.size))).mono ?_; rintro e w5 ⟨rfl, B5⟩; have hk1 : Hid (Below V0.heap.size V0 w5) := ((one_below V0 (.cells #[.bool (true), .bool (true)] 4)).drew).trans (B5.mono (by simp)); have hsl : Hid (RdV w5 w5.heap.size (some ⟨V0.heap.size, 0, none⟩) (cc [(true), (true)])) := (rdv_drew (rdv_cc V0 [(true), (true)])).on B5; clear B5))
  all_goals (
    have HB2 : Hid (Below w.heap.size w w6) := HV.out.trans (hk2.out.mono HV.out.size)
    have HK6 : Hid (∀ w' : World, Below w6.heap.size w6 w' → w'.cell? ⟨w.heap.size, 0, none⟩ = some (.int .i64 len) ∧ w'.cell? ⟨w.heap.size, 1, none⟩ = some (.slice A N c) ∧ w'.cell? ⟨w.heap.size + 1, 0, none⟩ = some (.int .i64 (e : Int)) ∧ w'.cell? ⟨w.heap.size + 1, 1, none⟩ = some (.slice (some ⟨b2, o2, none⟩) n2 c2) ∧ w'.cell? ⟨b2, o2 + i, none⟩ = some (.int .i64 (a : Int))) := fun w' hw => by
      have hw2 := hk2.out.trans (hw.mono hk2.out.size)
      obtain ⟨g1, g2, g3, g4⟩ := HK.out w' hw2
      exact ⟨g1, g2, g3, g4, HC2.out w' (HB2.out.trans (hw.mono HB2.out.size))⟩
    obtain ⟨hb0, hb1, hx0, hx1⟩ := HK.out _ hk2.out
    clear HK hk2 hk1 HR HE HC t1 t2
    go_wp2_with fail
    clear hb0 hb1 hx0 hx1 hcl
    refine wp_region_held_drew (S := fun w' => w'.cell? ⟨w.heap.size, 0, none⟩ = some (.int .i64 len) ∧ w'.cell? ⟨w.heap.size, 1, none⟩ = some (.slice A N c) ∧ w'.cell? ⟨w.heap.size + 1, 0, none⟩ = some (.int .i64 (e : Int)) ∧ w'.cell? ⟨w.heap.size + 1, 1, none⟩ = some (.slice (some ⟨b2, o2, none⟩) n2 c2) ∧ w'.cell? ⟨b2, o2 + i, none⟩ = some (.int .i64 (a : Int))) (by kernel_rfl) (HK6.out _ (Below.refl _ _).drew) (fun hHeld => ?_)
    (refine held_val (i := 0) rfl (by kernel_rfl) (by kernel_rfl) (by kernel_rfl) (fun _ _ _ _ h => h) hHeld (by rfl) ?_; apply Exists.intro; refine ⟨fun wq hSw => ?_, ?_⟩; ((try dsimp only at hSw); obtain ⟨k1, k2, k3, k4, k5⟩ := hSw; go_simp; try rfl); try simp only [Act.put, List.setIfInBounds_toArray, List.set_cons_zero, List.set_cons_succ])
    (refine held_val (i := 1) rfl (by kernel_rfl) (by kernel_rfl) (by kernel_rfl) (fun _ _ _ _ h => h) hHeld (by rfl) ?_; apply Exists.intro; refine ⟨fun wq hSw => ?_, ?_⟩; ((try dsimp only at hSw); obtain ⟨k1, k2, k3, k4, k5⟩ := hSw; go_simp; try rfl); try simp only [Act.put, List.setIfInBounds_toArray, List.set_cons_zero, List.set_cons_succ])
    (refine held_val (i := 2) rfl (by kernel_rfl) (by kernel_rfl) (by kernel_rfl) (fun _ _ _ _ h => h) hHeld (by rfl) ?_; apply Exists.intro; refine ⟨fun wq hSw => ?_, ?_⟩; ((try dsimp only at hSw); obtain ⟨k1, k2, k3, k4, k5⟩ := hSw; go_simp; try rfl); try simp only [Act.put, List.setIfInBounds_toArray, List.set_cons_zero, List.set_cons_succ])
    (refine held_val (i := 3) rfl (by kernel_rfl) (by kernel_rfl) (by kernel_rfl) (fun _ _ _ _ h => h) hHeld (by rfl) ?_; apply Exists.intro; refine ⟨fun wq hSw => ?_, ?_⟩; ((try dsimp only at hSw); obtain ⟨k1, k2, k3, k4, k5⟩ := hSw; go_simp; try rfl); try simp only [Act.put, List.setIfInBounds_toArray, List.set_cons_zero, List.set_cons_succ])
    (refine held_val (i := 4) rfl (by kernel_rfl) (by kernel_rfl) (by kernel_rfl) (fun _ _ _ _ h => h) hHeld (by rfl) ?_; apply Exists.intro; refine ⟨fun wq hSw => ?_, ?_⟩; ((try dsimp only at hSw); obtain ⟨k1, k2, k3, k4, k5⟩ := hSw; go_simp; try rfl); try simp only [Act.put, List.setIfInBounds_toArray, List.set_cons_zero, List.set_cons_succ])
    (refine held_val (i := 5) rfl (by kernel_rfl) (by kernel_rfl) (by kernel_rfl) (fun _ _ _ _ h => h) hHeld (by rfl) ?_; apply Exists.intro; refine ⟨fun wq hSw => ?_, ?_⟩; ((try dsimp only at hSw); obtain ⟨k1, k2, k3, k4, k5⟩ := hSw; go_simp; try rfl); try simp only [Act.put, List.setIfInBounds_toArray, List.set_cons_zero, List.set_cons_succ])
    (refine held_val (i := 6) rfl (by kernel_rfl) (by kernel_rfl) (by kernel_rfl) (fun _ _ _ _ h => h) hHeld (by rfl) ?_; apply Exists.intro; refine ⟨fun wq hSw => ?_, ?_⟩; ((try dsimp only at hSw); obtain ⟨k1, k2, k3, k4, k5⟩ := hSw; go_simp; try rfl); try simp only [Act.put, List.setIfInBounds_toArray, List.set_cons_zero, List.set_cons_succ])
    (refine held_val (i := 7) rfl (by kernel_rfl) (by kernel_rfl) (by kernel_rfl) (fun _ _ _ _ h => h) hHeld (by rfl) ?_; apply Exists.intro; refine ⟨fun wq hSw => ?_, ?_⟩; ((try dsimp only at hSw); obtain ⟨k1, k2, k3, k4, k5⟩ := hSw; go_simp; try rfl); try simp only [Act.put, List.setIfInBounds_toArray, List.set_cons_zero, List.set_cons_succ])
    (refine held_val (i := 8) rfl (by kernel_rfl) (by kernel_rfl) (by kernel_rfl) (fun _ _ _ _ h => h) hHeld (by rfl) ?_; apply Exists.intro; refine ⟨fun wq hSw => ?_, ?_⟩; ((try dsimp only at hSw); obtain ⟨k1, k2, k3, k4, k5⟩ := hSw; go_simp; try rfl); try simp only [Act.put, List.setIfInBounds_toArray, List.set_cons_zero, List.set_cons_succ])
    (refine held_val (i := 9) rfl (by kernel_rfl) (by kernel_rfl) (by kernel_rfl) (fun _ _ _ _ h => h) hHeld (by rfl) ?_; apply Exists.intro; refine ⟨fun wq hSw => ?_, ?_⟩; ((try dsimp only at hSw); obtain ⟨k1, k2, k3, k4, k5⟩ := hSw; go_simp; try rfl); try simp only [Act.put, List.setIfInBounds_toArray, List.set_cons_zero, List.set_cons_succ])
    (refine held_val (i := 10) rfl (by kernel_rfl) (by kernel_rfl) (by kernel_rfl) (fun _ _ _ _ h => h) hHeld (by rfl) ?_; apply Exists.intro; refine ⟨fun wq hSw => ?_, ?_⟩; ((try dsimp only at hSw); obtain ⟨k1, k2, k3, k4, k5⟩ := hSw; go_simp; try rfl); try simp only [Act.put, List.setIfInBounds_toArray, List.set_cons_zero, List.set_cons_succ])
    refine wpAnyH_ready (rs := [11]) (by kernel_rfl) (by simp) ?_
    refine AllReadyH.cons (of_drop rfl) (fun K hK => ?_) AllReadyH.nil
    clear hHeld
    go_simp
    (go_at_call 62; refine (HN.out w6.drew HB2.out.drew).mono ?_; rintro x w7 ⟨rfl, B7⟩; have hk3 : Hid (Below w6.heap.size w6 w7) := ((Below.refl _ w6).drew).trans B7; clear B7)
    go_wp2_with fail
    refine hK.out _ _ (HK6.out _ hk3.out) (fun hHeld => ?_)
    clear hK K
    try simp only [Act.put, List.setIfInBounds_toArray, List.set_cons_zero, List.set_cons_succ]
    (refine held_val (i := 12) rfl (by kernel_rfl) (by kernel_rfl) (by kernel_rfl) (fun _ _ _ _ h => h) hHeld (by rfl) ?_; apply Exists.intro; refine ⟨fun wq hSw => ?_, ?_⟩; ((try dsimp only at hSw); obtain ⟨k1, k2, k3, k4, k5⟩ := hSw; go_simp; try rfl); try simp only [Act.put, List.setIfInBounds_toArray, List.set_cons_zero, List.set_cons_succ])
    (refine held_val (i := 13) rfl (by kernel_rfl) (by kernel_rfl) (by kernel_rfl) (fun _ _ _ _ h => h) hHeld (by rfl) ?_; apply Exists.intro; refine ⟨fun wq hSw => ?_, ?_⟩; ((try dsimp only at hSw); obtain ⟨k1, k2, k3, k4, k5⟩ := hSw; go_simp; try rfl); try simp only [Act.put, List.setIfInBounds_toArray, List.set_cons_zero, List.set_cons_succ])
    (refine held_val (i := 14) rfl (by kernel_rfl) (by kernel_rfl) (by kernel_rfl) (fun _ _ _ _ h => h) hHeld (by rfl) ?_; apply Exists.intro; refine ⟨fun wq hSw => ?_, ?_⟩; ((try dsimp only at hSw); obtain ⟨k1, k2, k3, k4, k5⟩ := hSw; go_simp; try rfl); try simp only [Act.put, List.setIfInBounds_toArray, List.set_cons_zero, List.set_cons_succ])
    refine wpAnyH_done (by kernel_rfl) ?_ _
    go_wp2
    go_ret2
    exact ⟨by first | rfl | (rw [← hwr]; rfl), HB2.out.trans (hk3.out.mono HB2.out.size)⟩)
end Go.Proofs.Ytgibbokhdfblmaa
