/- The document's own UnaryMany answers what Many answers, for whatever it is handed. -/
import Derived.Test.YtkbelhclcpepaaaRefUList
namespace Go.Proofs.Ytkbelhclcpepaaa
open Go.RowKit

/-- At each round's head of the first loop: the sum so far, or more than 8192. -/
def RMRel (ns : List Nat) (v p : Value) : Prop :=
  ∃ i s : Nat, i ≤ ns.length ∧ p = .int .i64 (i : Int) ∧ v = .int .i64 (s : Int) ∧ s ≤ 18192 ∧ (ns.take i).any (fun n => decide (8192 ≤ n)) = false ∧
    (s = (ucs (ns.take i)).length ∨ (8192 < s ∧ 8192 < (ucs (ns.take i)).length))
/-- At each round's head of the second loop: the codes of i numbers. -/
def RNRel (w : World) (ns : List Nat) (v p : Value) (wr : World) : Prop :=
  ∃ i : Nat, i ≤ ns.length ∧ p = .int .i64 (i : Int) ∧ wr.ownsRow w.heap.size 3 1 v (ucs (ns.take i)).length (ic (ucs (ns.take i))) ∧ Below w.heap.size w wr

theorem small_at (ns : List Nat) (i : Nat) (h : ns.any (fun n => decide (8192 ≤ n)) = false) : ns[i]?.getD 0 < 8192 := by
  rcases Nat.lt_or_ge i ns.length with hi | hi
  · rw [List.getElem?_eq_getElem hi]
    rw [List.any_eq_false] at h
    have := h _ (List.getElem_mem hi)
    simpa using this
  · rw [List.getElem?_eq_none hi]; simp
theorem manyE_three (ns : List Nat) (h : ns.any (fun n => decide (8192 ≤ n)) = true) : manyE ns = 3 := by unfold manyE; rw [if_pos h]
theorem manyE_in (ns : List Nat) (h : ns.any (fun n => decide (8192 ≤ n)) = false) : manyE ns = if 8192 < (ucs ns).length then 8 else 0 := by unfold manyE; rw [if_neg (by rw [h]; simp)]

set_option maxRecDepth 100000 in
set_option maxHeartbeats 2000000 in
theorem rmany_walk (ns : List Nat) (A : Option Addr) (n c : Nat) (hn : ns.length = n) (hn2 : n ≤ 9223372036854775807) (w : World) (h : RdV w w.heap.size A (nc ns)) (L : List Bool) (e0 : Int) (he : manyE ns = e0) (hL : L = if e0 = 0 then ucs ns else []) :
    Calls Try.prog 27 #[.slice A n c] w (Gave w L e0) := by
  have HR := Lib.hid h; clear h
  have HN := Lib.hid hn; clear hn
  have HE := Lib.hid he; clear he
  have HL := Lib.hid hL; clear hL
  obtain ⟨w1, hw1⟩ : ∃ w1, w1 = w.alloc (.cells #[.int .i64 0, .slice none 0 0] 25) := ⟨_, rfl⟩
  have HW1 : Hid (w1.heap.size = w.heap.size + 1 ∧ Below w.heap.size w w1 ∧ w1.heap[w.heap.size]? = some (.cells #[.int .i64 0, .slice none 0 0] 25)) := by
    rw [hw1]; exact ⟨World.size_alloc _ _, one_below w _, World.alloc_heap_new w _⟩
  have HW := Lib.hid hw1; clear hw1
  go_enter Try.func27, Try.ntmps27
  go_wp2
  rw [← HW.out]
  clear HW
  go_loop [4, 5] (fun v p => RMRel ns v p) (fun _ p => n - (intOf p).toNat)
  case atStart => exact ⟨0, 0, Nat.zero_le _, rfl, rfl, by omega, rfl, .inl rfl⟩
  case round =>
    obtain ⟨i, s, hi, rfl, rfl, hs, hany, hsum⟩ := hrel
    rw [HN.out] at hi
    by_cases hlt : i < n
    · have hin : i < ns.length := by rw [HN.out]; exact hlt
      obtain ⟨b, off, rfl, hb, hc⟩ := (HR.out.below HW1.out.2.1 (Nat.le_refl _)).at_ (nc_get ns i hin)
      have hsn : (ucs (ns.take (i + 1))).length = (ucs (ns.take i)).length + (ns[i]?.getD 0 + 1) := by rw [take_snoc ns i hin, ucs_snoc, List.length_append, uc_length]
      have han := any_snoc ns i hin
      rw [hany, Bool.false_or] at han
      generalize ns[i]?.getD 0 = x at *
      by_cases hx : 8192 ≤ x
      · have h3 := manyE_three ns (any_take ns (i + 1) (by rw [han]; exact decide_eq_true hx))
        rw [HE.out] at h3
        subst h3
        have hL2 := HL.out
        rw [if_neg (by decide)] at hL2
        subst hL2
        obtain ⟨d0, d1, g0, g1⟩ := blk_cells HW1.out.2.2
        have t : (8191 : Int) < (x : Int) := by omega
        clear hsum hsn han hany
        go_wp2
        exact bodyPost_ret (v := .tuple #[.agg #[.int .i64 0, .slice none 0 0], .int .i64 3]) (by simp [results, Try.results27, go_sem, d0, d1]) rfl (gave_zero HW1.out.2.1 _ (Nat.le_refl _) 3)
      · have HA : Hid ((ns.take (i + 1)).any (fun n => decide (8192 ≤ n)) = false) := by show _ = _; rw [han]; exact decide_eq_false hx
        have t : ¬ (8191 : Int) < (x : Int) := by omega
        have HS : Hid (s < 10000 → (s + (x + 1) = (ucs (ns.take (i + 1))).length ∨ (8192 < s + (x + 1) ∧ 8192 < (ucs (ns.take (i + 1))).length))) := by
          intro _; rw [hsn]; omega
        have HS2 : Hid (¬ s < 10000 → (s = (ucs (ns.take (i + 1))).length ∨ (8192 < s ∧ 8192 < (ucs (ns.take (i + 1))).length))) := by
          intro _
          rcases hsum with h | h
          · right; rw [hsn]; omega
          · right; rw [hsn]; omega
        clear hsum hsn han hany
        by_cases hten : s < 10000
        · have t2 : (s : Int) < 10000 := by omega
          go_wp2
          go_round
          case rel => exact ⟨i + 1, s + (x + 1), by rw [HN.out]; omega, by go_num, by go_num, by omega, HA.out, HS.out hten⟩
          case measure => simp [intOf]; omega
        · have t2 : ¬ (s : Int) < 10000 := by omega
          go_wp2
          go_round
          case rel => exact ⟨i + 1, s, by rw [HN.out]; omega, by go_num, rfl, hs, HA.out, HS2.out hten⟩
          case measure => simp [intOf]; omega
    · have e : i = n := by omega
      rw [List.take_of_length_le (by rw [HN.out]; omega)] at hany hsum
      have hme := manyE_in ns hany
      rw [HE.out] at hme
      by_cases hbig : 8192 < (ucs ns).length
      · rw [if_pos hbig] at hme
        subst hme
        have hL2 := HL.out
        rw [if_neg (by decide)] at hL2
        subst hL2
        obtain ⟨d0, d1, g0, g1⟩ := blk_cells HW1.out.2.2
        have t : (8192 : Int) < (s : Int) := by omega
        clear hsum hany
        go_wp2
        exact bodyPost_ret (v := .tuple #[.agg #[.int .i64 0, .slice none 0 0], .int .i64 8]) (by simp [results, Try.results27, go_sem, d0, d1]) rfl (gave_zero HW1.out.2.1 _ (Nat.le_refl _) 8)
      · rw [if_neg hbig] at hme
        subst hme
        have hL2 := HL.out
        rw [if_pos rfl] at hL2
        have HLe := Lib.hid hL2; clear hL2
        have t : ¬ (8192 : Int) < (s : Int) := by omega
        have HAny := Lib.hid hany
        have hbg : (ucs ns).length ≤ 8192 := by omega
        have HBg := Lib.hid hbg
        clear hsum hany hbg hbig e
        go_wp2
        go_loopw [6, 7] (fun v p wr => RNRel w1 ns v p wr) (fun _ p _ => n - (intOf p).toNat)
        case atStart => exact ⟨0, Nat.zero_le _, rfl, ⟨rfl, .inl ⟨rfl, rfl⟩⟩, Below.refl _ _⟩
        case round =>
          obtain ⟨j, hj, rfl, hrow, hbel⟩ := hrel
          rw [HN.out] at hj
          obtain ⟨Av, cv, rfl⟩ := own_slice3 hrow
          have HBel := Lib.hid hbel; clear hbel
          have HRow := Lib.hid hrow; clear hrow
          by_cases hjn : j < n
          · have hin : j < ns.length := by rw [HN.out]; exact hjn
            obtain ⟨b, off, rfl, hb, hc⟩ := ((HR.out.below HW1.out.2.1 (Nat.le_refl _)).below (HBel.out.mono (by have := HW1.out.1; omega)) (Nat.le_refl _)).at_ (nc_get ns j hin)
            have hxs := small_at ns j HAny.out
            have HSn : Hid (ucs (ns.take (j + 1)) = ucs (ns.take j) ++ uc (ns[j]?.getD 0)) := by show _ = _; rw [take_snoc ns j hin, ucs_snoc]
            have HSl : Hid ((ucs (ns.take j)).length ≤ 8192) := Nat.le_trans (ucs_take_le ns j) HBg.out
            generalize ns[j]?.getD 0 = x at *
            have HC := Lib.hid (uList_any x (by omega) (uc x) rfl)
            have HUl := Lib.hid (uc_length x)
            generalize uc x = U at *
            generalize hM : ucs (ns.take j) = M at *
            clear hM
            go_wp2_with fail
            refine (HC.out wr).mono ?_
            rintro e w2 ⟨A2, c2, rfl, ho2, hb2⟩
            have HO2 := Lib.hid ho2; clear ho2
            have HB2 := Lib.hid hb2; clear hb2
            have HO1 := Lib.hid (own_below HRow.out HB2.out)
            go_wp2_with (at_builtin; refine app3 rfl _ _ rfl w1.heap.size (.slice Av M.length cv) M.length (ic M) rfl HO1.out A2 U.length c2 (ic U) rfl (own_rdv HO2.out) (ic_length _) (ic_one _) (own_none HO2.out) (by have := HSl.out; have := HUl.out; omega) (Nat.le_trans HBel.out.size HB2.out.size) ?_; intro v3 w4 hown3 hgrow3)
            have HO3 := Lib.hid hown3; clear hown3
            have HG3 := Lib.hid hgrow3; clear hgrow3
            go_roundw
            case rel =>
              refine ⟨j + 1, by rw [HN.out]; omega, by go_num, ?_, (HBel.out.trans (HB2.out.mono HBel.out.size)).grown HG3.out (Nat.le_trans HBel.out.size HB2.out.size) (fun k hk => (HO1.out.lt k hk).1)⟩
              rw [HSn.out, ic_append, List.length_append]
              exact HO3.out
            case measure => simp [intOf]; omega
          · have HR3 : Hid (RdV wr wr.heap.size Av (ic L)) := by
              have h := own_rdv HRow.out
              rw [List.take_of_length_le (by rw [HN.out]; omega), ← HLe.out] at h
              exact h
            have HLl : Hid (L.length = (ucs (ns.take j)).length) := by show _ = _; rw [List.take_of_length_le (by rw [HN.out]; omega), ← HLe.out]
            have HLb : Hid (L.length ≤ 8192) := by show _ ≤ _; rw [HLe.out]; exact HBg.out
            generalize (ucs (ns.take j)).length = q at *
            clear HRow
            go_wp2_with fail
            refine (packBits_any L q HLl.out (by have := HLl.out; have := HLb.out; omega) Av cv wr HR3.out).mono ?_
            rintro e w5 ⟨A4, c4, rfl, R4, B4⟩
            have hz := HBel.out.size
            have hz1 := HW1.out.1
            obtain ⟨⟨d0, d1, g0, g1⟩, HG⟩ := gv_store (w := w) (L := L) (c := c4) (r := w.heap.size) R4 (Nat.le_refl _) ((B4.block _ (by omega)).trans ((HBel.out.block _ (by omega)).trans HW1.out.2.2)) ((HW1.out.2.1.trans (HBel.out.mono (by omega))).trans (B4.mono (by omega)))
            clear R4 B4 hz hz1
            go_wp2
            exact bodyPost_ret (v := .tuple #[.agg #[.int .i64 (L.length : Int), .slice A4 (pack L).length c4], .int .i64 0]) (by simp [results, Try.results27, go_sem, d0, d1]) rfl HG.out
end Go.Proofs.Ytkbelhclcpepaaa
