/- Texts of this proof, one behind the other; each fact names its conditions. -/
import Derived.Test.YtbddcokjkdoaaaaGreatSN25
import Derived.Test.YtbddcokjkdoaaaaGreatSN2
import Derived.Test.YtbddcokjkdoaaaaGreatSN26
import Derived.Deep.RegionHeld3
import Derived.Test.YtbddcokjkdoaaaaGreatSN10
import Derived.BigQuiet
namespace Go.Proofs.YtbddcokjkdoaaaaGreat
set_option maxRecDepth 100000
set_option linter.unusedVariables false
open Go.RowKit Go.Shelf
set_option maxHeartbeats 1000000 in
theorem lowLen_ok (n t k q : Nat) (hq : n * k = q) (hn : n ≤ 300) (hk : k ≤ 20) (w : World) :
    Calls Tryz.prog 161 #[.agg #[.int .i64 (n : Int), .int .i64 (t : Int), .int .i64 (k : Int), .int .i64 0, .slice none 0 0, .int .i64 0, .slice none 0 0]] w fun e w' => e = .returned (.int .i64 (q : Int)) ∧ Below w.heap.size w w' := by
  have hqi : (n : Int) * (k : Int) = (q : Int) := by rw [← hq]; simp
  have hq6 : q ≤ 6000 := by rw [← hq]; exact Nat.mul_le_mul hn hk
  have hw1 : wrap64 (q : Int) = (q : Int) := by unfold wrap64; omega
  have hw2 : IntKind.i64.wrap (q : Int) = (q : Int) := by rw [IntKind.wrap_i64]; omega
  clear hq
  go_enter Tryz.func161, Tryz.ntmps161
  go_wp2
  go_ret
  exact ⟨rfl, one_below _ _⟩
set_option maxHeartbeats 1000000 in
theorem highLen_ok (n t k h : Nat) (hh : n + t / 2 ^ k + 1 = h) (hn : n ≤ 300) (ht : t ≤ 1048576) (hk : k ≤ 20) (w : World) :
    Calls Tryz.prog 162 #[.agg #[.int .i64 (n : Int), .int .i64 (t : Int), .int .i64 (k : Int), .int .i64 0, .slice none 0 0, .int .i64 0, .slice none 0 0]] w fun e w' => e = .returned (.int .i64 (h : Int)) ∧ Below w.heap.size w w' := by
  obtain ⟨q, hq⟩ : ∃ q, t / 2 ^ k = q := ⟨_, rfl⟩
  have hqi : (t : Int) / 2 ^ k = (q : Int) := by rw [← hq]; simp
  have hqt : q ≤ t := by rw [← hq]; exact Nat.div_le_self _ _
  rw [hq] at hh
  have hhi : (n : Int) + (q : Int) + 1 = (h : Int) := by omega
  have k0 : (0 : Int) ≤ (k : Int) := by omega
  have k1 : ¬ (k : Int) < 0 := by omega
  clear hq
  go_enter Tryz.func162, Tryz.ntmps162
  go_wp2_with fail
  generalize hV : w.alloc (.cells #[.int .i64 (n : Int), .int .i64 (t : Int), .int .i64 (k : Int), .int .i64 0, .slice none 0 0, .int .i64 0, .slice none 0 0] 65) = V0
  have HV : Hid (Below w.heap.size w V0) := hV ▸ one_below _ _
  have hb : V0.heap[w.heap.size]? = some (.cells #[.int .i64 (n : Int), .int .i64 (t : Int), .int .i64 (k : Int), .int .i64 0, .slice none 0 0, .int .i64 0, .slice none 0 0] 65 (0, 0)) := by rw [← hV]; exact World.alloc_heap_new _ _
  obtain ⟨⟨r0, r1, r2, -⟩, -⟩ := cells7 hb
  clear hb hV
  go_region
  go_wp2
  go_ret
  exact ⟨by first | rfl | (rw [← hhi]; rfl), HV.out.drew⟩
def OfRel (w7 : World) (K : Nat) (B : Nat → List Bool) (n : Nat) (p : Value) (wr : World) : Prop :=
  ∃ i : Nat, i ≤ n ∧ p = .int .i64 (i : Int) ∧ YW wr K (B i) ∧ w7.grownBy wr (some K)
theorem fin_bits {w wr : World} {R K : Nat} {l : List Bool} (hu : YW wr K l) (hr : wr.heap[R]? = some (.cells #[.int .i64 0, .slice none 0 0] 27 (0, 0))) (hb : Below w.heap.size w wr) (hR : w.heap.size ≤ R) :
    ∃ A c, (wr.cell? ⟨K, 0, none⟩ = some (.int .i64 (l.length : Int)) ∧ wr.cell? ⟨K, 1, none⟩ = some (.slice A (pack l).length c)) ∧ (wr.cell? ⟨R, 0, none⟩ = some (.int .i64 0) ∧ wr.cell? ⟨R, 1, none⟩ = some (.slice none 0 0) ∧ wr.frozen? ⟨R, 0, none⟩ = false ∧ wr.frozen? ⟨R, 1, none⟩ = false) ∧
      Hid (PkP w l (.returned (.agg #[.int .i64 (l.length : Int), .slice A (pack l).length c])) ((wr.setCell ⟨R, 0, none⟩ (.int .i64 (l.length : Int))).setCell ⟨R, 1, none⟩ (.slice A (pack l).length c))) := by
  obtain ⟨A, c, hK, hR2⟩ := hu
  obtain ⟨c0, c1, -, -⟩ := blk_cells hK
  refine ⟨A, c, ⟨c0, c1⟩, blk_cells hr, A, c, rfl, ?_, (hb.setCell (p := ⟨R, 0, none⟩) hR _).setCell (p := ⟨R, 1, none⟩) hR _⟩
  have q1 := hR2.setK (i := 0) (.int .i64 (l.length : Int)) hr
  have hr2 : (wr.setCell ⟨R, 0, none⟩ (.int .i64 (l.length : Int))).heap[R]? = some (.cells #[.int .i64 (l.length : Int), .slice none 0 0] 27 (0, 0)) := by
    rw [heap_set_same _ _ _ _ 27 _ hr]; simp
  have q2 := q1.setK (i := 1) (.slice A (pack l).length c) hr2
  have e : ((wr.setCell ⟨R, 0, none⟩ (.int .i64 (l.length : Int))).setCell ⟨R, 1, none⟩ (.slice A (pack l).length c)).heap.size = wr.heap.size := by simp [World.setCell]
  rw [e]
  exact q2
theorem grown_low2 {w w7 wr : World} {K : Nat} (h : w7.grownBy wr (some K)) (hb : Below w.heap.size w w7) (hK : w.heap.size ≤ K) : Below w.heap.size w wr :=
  ⟨h.os.trans hb.os, h.tape.trans hb.tape, h.output.trans hb.output, Nat.le_trans hb.size h.size, fun j hj => (h.block j (by have := hb.size; omega) (fun e => by
    have : j = K := by simpa using e
    omega)).trans (hb.block j hj)⟩
theorem loP_nil (k : Nat) : loP k [] = [] := rfl
set_option maxHeartbeats 2000000 in
theorem lowOf_ok (l : List Nat) (n m t k : Nat) (hn : l.length = n) (hn3 : n ≤ 300) (hk : k ≤ 20) (hx : ∀ x ∈ l, x ≤ 1048576) (A : Option Addr) (c : Nat) (w : World) (h : RdV w w.heap.size A (zc (ns l))) :
    Calls Tryz.prog 163 #[.slice A n c, .agg #[.int .i64 (m : Int), .int .i64 (t : Int), .int .i64 (k : Int), .int .i64 0, .slice none 0 0, .int .i64 0, .slice none 0 0]] w (PkP w (loP k l)) := by
  have HX := Lib.hid h; clear h
  have HN := Lib.hid hn; clear hn
  go_enter Tryz.func163, Tryz.ntmps163
  go_wp2_with fail
  obtain ⟨w7, hw7⟩ : ∃ w7, w7 = ((w.alloc (.cells #[.int .i64 (m : Int), .int .i64 (t : Int), .int .i64 (k : Int), .int .i64 0, .slice none 0 0, .int .i64 0, .slice none 0 0] 65)).alloc (.cells #[.int .i64 0, .slice none 0 0] 27)).alloc (.cells #[.int .i64 0, .slice none 0 0] 252) := ⟨_, rfl⟩
  have H7 : Hid (w7.heap.size = w.heap.size + 3 ∧ Below w.heap.size w w7 ∧ w7.heap[w.heap.size]? = some (.cells #[.int .i64 (m : Int), .int .i64 (t : Int), .int .i64 (k : Int), .int .i64 0, .slice none 0 0, .int .i64 0, .slice none 0 0] 65 (0, 0)) ∧ w7.heap[w.heap.size + 1]? = some (.cells #[.int .i64 0, .slice none 0 0] 27 (0, 0)) ∧ w7.heap[w.heap.size + 1 + 1]? = some (.cells #[.int .i64 0, .slice none 0 0] 252 (0, 0))) := by
    have e1 : (w.alloc (.cells #[.int .i64 (m : Int), .int .i64 (t : Int), .int .i64 (k : Int), .int .i64 0, .slice none 0 0, .int .i64 0, .slice none 0 0] 65)).heap.size = w.heap.size + 1 := World.size_alloc _ _
    have e2 : ((w.alloc (.cells #[.int .i64 (m : Int), .int .i64 (t : Int), .int .i64 (k : Int), .int .i64 0, .slice none 0 0, .int .i64 0, .slice none 0 0] 65)).alloc (.cells #[.int .i64 0, .slice none 0 0] 27)).heap.size = w.heap.size + 1 + 1 := by rw [World.size_alloc, e1]
    rw [hw7]
    refine ⟨by rw [World.size_alloc, e2], (up2 w _ _).alloc (by simp only [World.size_alloc]; omega) _, ?_, ?_, ?_⟩
    · rw [(one_below _ _).block _ (by omega), (one_below _ _).block _ (by omega)]; exact World.alloc_heap_new w _
    · rw [(one_below _ _).block _ (by omega), ← e1]; exact World.alloc_heap_new _ _
    · rw [← e2]; exact World.alloc_heap_new _ _
  rw [← hw7]
  clear hw7
  go_loopw [11] (fun p wr => OfRel w7 (w.heap.size + 1 + 1) (fun i => loP k (l.take i)) n p wr) (fun p _ => n - (intOf p).toNat)
  case atStart => exact ⟨0, Nat.zero_le _, rfl, by simp only [List.take_zero, loP_nil]; exact ⟨none, 0, H7.out.2.2.2.2, .inl rfl⟩, ⟨rfl, rfl, rfl, Nat.le_refl _, fun _ _ _ => rfl⟩⟩
  case round =>
    obtain ⟨i, hi, rfl, hu, hg⟩ := hrel
    by_cases hlt : i < n
    · have hil : i < l.length := by rw [HN.out]; exact hlt
      have hx1 := hx _ (at_mem l i hil)
      have hb := (hg.block w.heap.size (by have := H7.out.1; omega) (by simp; omega)).trans H7.out.2.2.1
      have hlow := grown_low2 hg H7.out.2.1 (by omega)
      obtain ⟨b, off, rfl, hbb, hc⟩ := (HX.out.below hlow (Nat.le_refl _)).at_ (ns_get l i hil)
      have hlen : (loP k (l.take i)).length + k ≤ 8192 := by
        rw [loP_len, List.length_take]
        have h1 : min i l.length * k ≤ 300 * 20 := Nat.mul_le_mul (by omega) hk
        omega
      have HL : Hid (loP k (l.take (i + 1)) = loP k (l.take i) ++ nb (l[i]?.getD 0 % 2 ^ k) k) := by
        show _ = _
        rw [ntake_snoc l i hil, loP_snoc]
      generalize l[i]?.getD 0 = x at *
      have hp20 : 2 ^ k ≤ 2 ^ 20 := Nat.pow_le_pow_right (by omega) hk
      have hp1 := Nat.two_pow_pos k
      have hmx : x % 2 ^ k < 2 ^ k := Nat.mod_lt _ hp1
      obtain ⟨y, hy⟩ : ∃ y, x % 2 ^ k = y := ⟨_, rfl⟩
      have hand : bits .and .u64 (x : Int) (((2 ^ k - 1 : Nat)) : Int) = (y : Int) := by
        rw [u64_and_nat x (2 ^ k - 1) (by omega) (by omega), lowmask, hy]
      have HP : Hid (∀ V, YW V (w.heap.size + 1 + 1) (loP k (l.take i)) → Calls Tryz.prog 201 #[.pointer (some ⟨w.heap.size + 1 + 1, 0, none⟩), .int .u64 (y : Int), .int .i64 (k : Int)] V fun e w' => e = .returned (.tuple #[]) ∧ YW w' (w.heap.size + 1 + 1) (loP k (l.take (i + 1))) ∧ V.grownBy w' (some (w.heap.size + 1 + 1))) := fun V hV =>
        yput_ok V _ _ _ y k (by omega) (by rw [← hy]; exact Nat.div_eq_of_lt hmx) hlen (by omega) (by rw [HL.out, hy]) hV
      obtain ⟨z, hz⟩ : ∃ z, 2 ^ k - 1 = z := ⟨_, rfl⟩
      have hz1 : ((2 : Int) ^ k) - 1 = (z : Int) := by
        have e : ((2 : Int) ^ k) = ((2 ^ k : Nat) : Int) := by simp
        rw [e, ← hz]; omega
      have hz20 : z ≤ 1048576 := by omega
      have hwx : IntKind.u64.wrap (x : Int) = (x : Int) := by rw [IntKind.wrap_u64]; omega
      have hwp : IntKind.u64.wrap ((2 : Int) ^ k) = (2 : Int) ^ k := by rw [IntKind.wrap_u64]; omega
      have hwz : IntKind.u64.wrap (z : Int) = (z : Int) := by rw [IntKind.wrap_u64]; omega
      rw [hz] at hand
      have hk2 : ∀ w' : World, w7.grownBy w' (some (w.heap.size + 1 + 1)) → w'.cell? ⟨w.heap.size, 2, none⟩ = some (.int .i64 (k : Int)) := fun w' h => (cells7 ((h.block w.heap.size (by have := H7.out.1; omega) (by simp; omega)).trans H7.out.2.2.1)).1.2.2.1
      have HK2 := Lib.hid hk2; clear hk2
      have r2 := HK2.out _ hg
      have HU := Lib.hid hu
      have HG := Lib.hid hg
      have HB := Lib.hid hb
      clear hu hg hb hx1 hp20 hp1 hmx hlen hy hz hx
      go_wp2_with fail
      refine wp_region_held_drew (S := fun w' => w'.cell? ⟨w.heap.size, 2, none⟩ = some (.int .i64 (k : Int))) (by kernel_rfl) (r2) (fun hHeld => ?_)
      (refine held_val (i := 0) rfl (by kernel_rfl) (by kernel_rfl) (by kernel_rfl) (fun _ _ _ _ h => h) hHeld (by rfl) ?_; apply Exists.intro; refine ⟨fun wq hSw => ?_, ?_⟩; ((try dsimp only at hSw); go_simp; try rfl); try simp only [Act.put, List.setIfInBounds_toArray, List.set_cons_zero, List.set_cons_succ])
      (refine held_val (i := 1) rfl (by kernel_rfl) (by kernel_rfl) (by kernel_rfl) (fun _ _ _ _ h => h) hHeld (by rfl) ?_; apply Exists.intro; refine ⟨fun wq hSw => ?_, ?_⟩; ((try dsimp only at hSw); go_simp; try rfl); try simp only [Act.put, List.setIfInBounds_toArray, List.set_cons_zero, List.set_cons_succ])
      (refine held_val (i := 2) rfl (by kernel_rfl) (by kernel_rfl) (by kernel_rfl) (fun _ _ _ _ h => h) hHeld (by rfl) ?_; apply Exists.intro; refine ⟨fun wq hSw => ?_, ?_⟩; ((try dsimp only at hSw); go_simp; try rfl); try simp only [Act.put, List.setIfInBounds_toArray, List.set_cons_zero, List.set_cons_succ])
      (refine held_val (i := 3) rfl (by kernel_rfl) (by kernel_rfl) (by kernel_rfl) (fun _ _ _ _ h => h) hHeld (by rfl) ?_; apply Exists.intro; refine ⟨fun wq hSw => ?_, ?_⟩; ((try dsimp only at hSw); go_simp; try rfl); try simp only [Act.put, List.setIfInBounds_toArray, List.set_cons_zero, List.set_cons_succ])
      (refine held_val (i := 4) rfl (by kernel_rfl) (by kernel_rfl) (by kernel_rfl) (fun _ _ _ _ h => h) hHeld (by rfl) ?_; apply Exists.intro; refine ⟨fun wq hSw => ?_, ?_⟩; ((try dsimp only at hSw); go_simp; try rfl); try simp only [Act.put, List.setIfInBounds_toArray, List.set_cons_zero, List.set_cons_succ])
      (refine held_val (i := 5) rfl (by kernel_rfl) (by kernel_rfl) (by kernel_rfl) (fun _ _ _ _ h => h) hHeld (by rfl) ?_; apply Exists.intro; refine ⟨fun wq hSw => ?_, ?_⟩; ((try dsimp only at hSw); go_simp; try rfl); try simp only [Act.put, List.setIfInBounds_toArray, List.set_cons_zero, List.set_cons_succ])
      (refine held_val (i := 6) rfl (by kernel_rfl) (by kernel_rfl) (by kernel_rfl) (fun _ _ _ _ h => h) hHeld (by rfl) ?_; apply Exists.intro; refine ⟨fun wq hSw => ?_, ?_⟩; ((try dsimp only at hSw); go_simp; try rfl); try simp only [Act.put, List.setIfInBounds_toArray, List.set_cons_zero, List.set_cons_succ])
      (refine held_val (i := 7) rfl (by kernel_rfl) (by kernel_rfl) (by kernel_rfl) (fun _ _ _ _ h => h) hHeld (by rfl) ?_; apply Exists.intro; refine ⟨fun wq hSw => ?_, ?_⟩; ((try dsimp only at hSw); go_simp; try rfl); try simp only [Act.put, List.setIfInBounds_toArray, List.set_cons_zero, List.set_cons_succ])
      (refine held_val (i := 8) rfl (by kernel_rfl) (by kernel_rfl) (by kernel_rfl) (fun _ _ _ _ h => h) hHeld (by rfl) ?_; apply Exists.intro; refine ⟨fun wq hSw => ?_, ?_⟩; ((try dsimp only at hSw); go_simp; try rfl); try simp only [Act.put, List.setIfInBounds_toArray, List.set_cons_zero, List.set_cons_succ])
      refine wpAnyH_ready (rs := [9]) (by kernel_rfl) (by simp) ?_
      refine AllReadyH.cons (of_drop rfl) (fun K hK => ?_) AllReadyH.nil
      clear hHeld
      go_simp
      (go_at_call 201; refine (HP.out wr.drew HU.out).mono ?_; rintro e w8 ⟨rfl, hu8, hg8⟩; have HG3 : Hid (w7.grownBy w8 (some (w.heap.size + 1 + 1))) := grown_trans HG.out ⟨hg8.os, hg8.tape, hg8.output, hg8.size, hg8.block⟩; have HU8 := Lib.hid hu8; clear hu8 hg8)
      go_wp2_with fail
      refine hK.out _ _ (HK2.out _ HG3.out) (fun hHeld => ?_)
      clear hK K
      try simp only [Act.put, List.setIfInBounds_toArray, List.set_cons_zero, List.set_cons_succ]
      refine wpAnyH_done (by kernel_rfl) ?_ _
      go_wp2
      go_roundw
      case rel => exact ⟨i + 1, by omega, by go_num, HU8.out, HG3.out⟩
      case measure => simp [intOf]; omega
    · have hin : l.take i = l := List.take_of_length_le (by rw [HN.out]; omega)
      simp only [hin] at hu
      have hr := (hg.block (w.heap.size + 1) (by have := H7.out.1; omega) (by simp)).trans H7.out.2.2.2.1
      have hlow := grown_low2 hg H7.out.2.1 (by omega)
      obtain ⟨A2, c2, ⟨p0, p1⟩, ⟨r0, r1, k0, k1⟩, HF⟩ := fin_bits hu hr hlow (R := w.heap.size + 1) (by omega)
      clear hr hlow hu hg hx hin
      generalize loP k l = L at *
      go_wp2
      exact bodyPost_ret (v := .agg #[.int .i64 (L.length : Int), .slice A2 (pack L).length c2]) (by simp [results, Tryz.results163, go_sem, r0, r1]) rfl HF.out
set_option maxHeartbeats 2000000 in
theorem highOf_ok (l : List Nat) (n m t k : Nat) (hmn : m = n) (hn : l.length = n) (hn3 : n ≤ 300) (hk : k ≤ 20) (ht : t ≤ 1048576) (hx : ∀ x ∈ l, x ≤ t) (hu0 : Up 0 l) (hfit : n + t / 2 ^ k + 1 ≤ 8192) (A : Option Addr) (c : Nat) (w : World) (h : RdV w w.heap.size A (zc (ns l))) :
    Calls Tryz.prog 164 #[.slice A n c, .agg #[.int .i64 (m : Int), .int .i64 (t : Int), .int .i64 (k : Int), .int .i64 0, .slice none 0 0, .int .i64 0, .slice none 0 0]] w (PkP w (fhi k l t)) := by
  have HX := Lib.hid h; clear h
  have HN := Lib.hid hn; clear hn
  have HMN := Lib.hid hmn; clear hmn
  have hus : Up 0 (l.map (· / 2 ^ k)) := by have := up_map k l 0 hu0; rwa [Nat.zero_div] at this
  have HUs := Lib.hid hus; clear hus
  have HU0 := Lib.hid hu0; clear hu0
  go_enter Tryz.func164, Tryz.ntmps164
  go_wp2_with fail
  obtain ⟨w7, hw7⟩ : ∃ w7, w7 = ((w.alloc (.cells #[.int .i64 (m : Int), .int .i64 (t : Int), .int .i64 (k : Int), .int .i64 0, .slice none 0 0, .int .i64 0, .slice none 0 0] 65)).alloc (.cells #[.int .i64 0, .slice none 0 0] 27)).alloc (.cells #[.int .i64 0, .slice none 0 0] 252) := ⟨_, rfl⟩
  have H7 : Hid (w7.heap.size = w.heap.size + 3 ∧ Below w.heap.size w w7 ∧ w7.heap[w.heap.size]? = some (.cells #[.int .i64 (m : Int), .int .i64 (t : Int), .int .i64 (k : Int), .int .i64 0, .slice none 0 0, .int .i64 0, .slice none 0 0] 65 (0, 0)) ∧ w7.heap[w.heap.size + 1]? = some (.cells #[.int .i64 0, .slice none 0 0] 27 (0, 0)) ∧ w7.heap[w.heap.size + 1 + 1]? = some (.cells #[.int .i64 0, .slice none 0 0] 252 (0, 0))) := by
    have e1 : (w.alloc (.cells #[.int .i64 (m : Int), .int .i64 (t : Int), .int .i64 (k : Int), .int .i64 0, .slice none 0 0, .int .i64 0, .slice none 0 0] 65)).heap.size = w.heap.size + 1 := World.size_alloc _ _
    have e2 : ((w.alloc (.cells #[.int .i64 (m : Int), .int .i64 (t : Int), .int .i64 (k : Int), .int .i64 0, .slice none 0 0, .int .i64 0, .slice none 0 0] 65)).alloc (.cells #[.int .i64 0, .slice none 0 0] 27)).heap.size = w.heap.size + 1 + 1 := by rw [World.size_alloc, e1]
    rw [hw7]
    refine ⟨by rw [World.size_alloc, e2], (up2 w _ _).alloc (by simp only [World.size_alloc]; omega) _, ?_, ?_, ?_⟩
    · rw [(one_below _ _).block _ (by omega), (one_below _ _).block _ (by omega)]; exact World.alloc_heap_new w _
    · rw [(one_below _ _).block _ (by omega), ← e1]; exact World.alloc_heap_new _ _
    · rw [← e2]; exact World.alloc_heap_new _ _
  rw [← hw7]
  clear hw7
  go_loopw [11] (fun p wr => OfRel w7 (w.heap.size + 1 + 1) (fun i => hiQ 0 ((l.map (· / 2 ^ k)).take i)) n p wr) (fun p _ => n - (intOf p).toNat)
  case atStart => exact ⟨0, Nat.zero_le _, rfl, by simp only [List.take_zero]; exact ⟨none, 0, H7.out.2.2.2.2, .inl rfl⟩, ⟨rfl, rfl, rfl, Nat.le_refl _, fun _ _ _ => rfl⟩⟩
  case round =>
    obtain ⟨i, hi, rfl, hu, hg⟩ := hrel
    have hk2 : ∀ w' : World, w7.grownBy w' (some (w.heap.size + 1 + 1)) → w'.cell? ⟨w.heap.size, 2, none⟩ = some (.int .i64 (k : Int)) := fun w' h => (cells7 ((h.block w.heap.size (by have := H7.out.1; omega) (by simp; omega)).trans H7.out.2.2.1)).1.2.2.1
    have HK2 := Lib.hid hk2; clear hk2
    have hml : (l.map (· / 2 ^ k)).length = n := by rw [List.length_map]; exact HN.out
    by_cases hlt : i < n
    · have hil : i < l.length := by rw [HN.out]; exact hlt
      have hx1 := hx _ (at_mem l i hil)
      have hlow := grown_low2 hg H7.out.2.1 (by omega)
      obtain ⟨b, off, rfl, hbb, hc⟩ := (HX.out.below hlow (Nat.le_refl _)).at_ (ns_get l i hil)
      have hlen := hiQ_len _ 0 (up_take _ 0 i HUs.out)
      have hlast := up_last _ 0 i HUs.out (by rw [hml]; exact hlt)
      have hsn := ntake_snoc (l.map (· / 2 ^ k)) i (by rw [hml]; exact hlt)
      have hgi : (l.map (· / 2 ^ k))[i]'(by rw [hml]; exact hlt) = (l[i]?.getD 0) / 2 ^ k := by simp [List.getElem?_eq_getElem hil]
      have hgi2 : (l.map (· / 2 ^ k))[i]?.getD 0 = (l[i]?.getD 0) / 2 ^ k := by rw [List.getElem?_eq_getElem (by rw [hml]; exact hlt), ← hgi]; rfl
      rw [hgi] at hlast
      rw [hgi2] at hsn
      rw [List.length_take, hml, Nat.min_eq_left (by omega)] at hlen
      generalize l[i]?.getD 0 = x at *
      have hxt : x / 2 ^ k ≤ t / 2 ^ k := Nat.div_le_div_right hx1
      obtain ⟨y, hy⟩ : ∃ y, x / 2 ^ k = y := ⟨_, rfl⟩
      have hyi : (x : Int) / 2 ^ k = (y : Int) := by rw [← hy]; simp
      rw [hy] at hlast hsn hxt
      obtain ⟨z, hz⟩ : ∃ z, i + y = z := ⟨_, rfl⟩
      have hzi : (i : Int) + (y : Int) = (z : Int) := by omega
      have hz8 : z ≤ 8192 := by omega
      have hzw : IntKind.i64.wrap (z : Int) = (z : Int) := by rw [IntKind.wrap_i64]; omega
      have hB : hiQ 0 ((l.map (· / 2 ^ k)).take (i + 1)) = upto (hiQ 0 ((l.map (· / 2 ^ k)).take i)) z ++ nb 1 1 := by
        rw [hsn, hiQ_snoc]
        unfold upto
        congr 2
        congr 1
        omega
      have hBl : (upto (hiQ 0 ((l.map (· / 2 ^ k)).take i)) z).length = z := by
        unfold upto
        rw [List.length_append, List.length_replicate]; omega
      have HF : Hid (∀ V, YW V (w.heap.size + 1 + 1) (hiQ 0 ((l.map (· / 2 ^ k)).take i)) → Calls Tryz.prog 202 #[.pointer (some ⟨w.heap.size + 1 + 1, 0, none⟩), .int .i64 (z : Int)] V fun e w' => e = .returned (.tuple #[]) ∧ YW w' (w.heap.size + 1 + 1) (upto (hiQ 0 ((l.map (· / 2 ^ k)).take i)) z) ∧ V.grownBy w' (some (w.heap.size + 1 + 1))) := fun V hV =>
        yfill_ok V _ _ _ z hz8 rfl hV
      have HP : Hid (∀ V, YW V (w.heap.size + 1 + 1) (upto (hiQ 0 ((l.map (· / 2 ^ k)).take i)) z) → Calls Tryz.prog 201 #[.pointer (some ⟨w.heap.size + 1 + 1, 0, none⟩), .int .u64 1, .int .i64 1] V fun e w' => e = .returned (.tuple #[]) ∧ YW w' (w.heap.size + 1 + 1) (hiQ 0 ((l.map (· / 2 ^ k)).take (i + 1))) ∧ V.grownBy w' (some (w.heap.size + 1 + 1))) := fun V hV =>
        yput_ok V _ _ _ 1 1 (by omega) (by decide) (by rw [hBl]; omega) (by omega) hB hV
      have r2 := HK2.out _ hg
      have k0 : (0 : Int) ≤ (k : Int) := by omega
      have k1 : ¬ (k : Int) < 0 := by omega
      have HU := Lib.hid hu
      have HG := Lib.hid hg
      clear hu hg hx1 hx hsn hlast hlen hgi hgi2 hB hBl hxt hy hz hfit hml
      go_wp2_with fail
      refine (HF.out wr HU.out).mono ?_
      rintro e w8 ⟨rfl, hu8, hg8⟩
      have HG8 := Lib.hid (grown_trans HG.out hg8); clear hg8
      go_wp2_with fail
      refine (HP.out w8 hu8).mono ?_
      rintro e w9 ⟨rfl, hu9, hg9⟩
      have HG9 := Lib.hid (grown_trans HG8.out hg9); clear hg9
      have HU9 := Lib.hid hu9; clear hu9
      clear hu8
      go_wp2
      go_roundw
      case rel => exact ⟨i + 1, by omega, by go_num, HU9.out, HG9.out⟩
      case measure => simp [intOf]; omega
    · have hin : (l.map (· / 2 ^ k)).take i = l.map (· / 2 ^ k) := List.take_of_length_le (by rw [hml]; omega)
      simp only [hin] at hu
      have hlen := hiQ_len _ 0 HUs.out
      have hlast : lastD 0 (l.map (· / 2 ^ k)) ≤ t / 2 ^ k := by
        unfold lastD
        cases hq : (l.map (· / 2 ^ k)).getLast? with
        | none => exact Nat.zero_le _
        | some y =>
          have hm := List.mem_of_getLast? hq
          simp only [List.mem_map] at hm
          obtain ⟨x, hx1, rfl⟩ := hm
          exact Nat.div_le_div_right (hx x hx1)
      rw [hml] at hlen
      obtain ⟨z, hz⟩ : ∃ z, n + t / 2 ^ k + 1 = z := ⟨_, rfl⟩
      have hB : fhi k l t = upto (hiQ 0 (l.map (· / 2 ^ k))) z := by
        unfold fhi upto
        rw [hiP_hiQ]
        congr 2
        omega
      have HH : Hid (∀ V, Calls Tryz.prog 162 #[.agg #[.int .i64 (m : Int), .int .i64 (t : Int), .int .i64 (k : Int), .int .i64 0, .slice none 0 0, .int .i64 0, .slice none 0 0]] V fun e w' => e = .returned (.int .i64 (z : Int)) ∧ Below V.heap.size V w') := fun V => highLen_ok m t k z (by rw [HMN.out]; exact hz) (by rw [HMN.out]; exact hn3) ht hk V
      have HF : Hid (∀ V, YW V (w.heap.size + 1 + 1) (hiQ 0 (l.map (· / 2 ^ k))) → Calls Tryz.prog 202 #[.pointer (some ⟨w.heap.size + 1 + 1, 0, none⟩), .int .i64 (z : Int)] V fun e w' => e = .returned (.tuple #[]) ∧ YW w' (w.heap.size + 1 + 1) (fhi k l t) ∧ V.grownBy w' (some (w.heap.size + 1 + 1))) := fun V hV => by
        rw [hB]
        exact yfill_ok V _ _ _ z (by omega) rfl hV
      have hb := (hg.block w.heap.size (by have := H7.out.1; omega) (by simp; omega)).trans H7.out.2.2.1
      obtain ⟨⟨q0, q1, q2, q3, q4, q5, q6⟩, -⟩ := cells7 hb
      have HU := Lib.hid hu
      have HG := Lib.hid hg
      clear hu hg hb hB hlen hlast hin hx hml hfit hz
      generalize fhi k l t = L at *
      go_wp2_with fail
      refine (HH.out wr).mono ?_
      rintro e w8 ⟨rfl, hb8⟩
      have hu8 : YW w8 (w.heap.size + 1 + 1) (hiQ 0 (l.map (· / 2 ^ k))) := by
        obtain ⟨A1, c1, e1, e2⟩ := HU.out
        exact ⟨A1, c1, (hb8.block _ (by have := H7.out.1; have := HG.out.size; omega)).trans e1, e2.on hb8⟩
      have HG8 := Lib.hid (grown_trans HG.out (grown_of_below hb8 (some (w.heap.size + 1 + 1))))
      clear hb8 q0 q1 q2 q3 q4 q5 q6
      go_wp2_with fail
      refine (HF.out w8 hu8).mono ?_
      rintro e w9 ⟨rfl, hu9, hg9⟩
      have hG9 := grown_trans HG8.out hg9
      have hr := (hG9.block (w.heap.size + 1) (by have := H7.out.1; omega) (by simp)).trans H7.out.2.2.2.1
      have hlow := grown_low2 hG9 H7.out.2.1 (by omega)
      obtain ⟨A2, c2, ⟨p0, p1⟩, ⟨r0, r1, k0, k1⟩, HFn⟩ := fin_bits hu9 hr hlow (R := w.heap.size + 1) (by omega)
      clear hr hlow hu9 hg9 hG9 hu8
      go_wp2
      exact bodyPost_ret (v := .agg #[.int .i64 (L.length : Int), .slice A2 (pack L).length c2]) (by simp [results, Tryz.results164, go_sem, r0, r1]) rfl HFn.out
end Go.Proofs.YtbddcokjkdoaaaaGreat
