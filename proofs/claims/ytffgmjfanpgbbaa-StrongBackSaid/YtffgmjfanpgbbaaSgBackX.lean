/- The law StrongBack: an order the other way round is one of the turned graph; for whatever graph and arc. -/
import Derived.Test.YtffgmjfanpgbbaaSgJ
import Derived.Test.YtffgmjfanpgbbaaOpen
import Derived.Test.YtffgmjfanpgbbaaNMem
import Derived.Test.YtffgmjfanpgbbaaWChk
import Derived.Deep.Matrix
import Derived.Deep.SlicePairs
import Derived.SizedLaws
import Derived.Test.YtffgmjfanpgbbaaRN5
namespace Go.Proofs.Ytffgmjfanpgbbaa

section
set_option maxRecDepth 100000
set_option linter.unusedVariables false
open Go.RowKit Go.Shelf

theorem rdv_off {w : World} {b off B : Nat} {xs : List Value} (h : RdV w B (some ⟨b, off, none⟩) xs) {i : Nat} {v : Value} (hi : xs[i]? = some v) : w.cell? ⟨b, off + i, none⟩ = some v := by
  obtain ⟨b', o', e, _, hc⟩ := h.at_ hi
  simp only [Option.some.injEq, Addr.mk.injEq, and_true] at e
  obtain ⟨rfl, rfl⟩ := e
  exact hc
/-- Where a node was found so far, or -1. -/
def Fnd (o : List Nat) (n x : Nat) (r : Int) : Prop := (r = -1 ∧ x ∉ o.take n) ∨ ∃ k : Nat, r = (k : Int) ∧ k < n ∧ k < o.length ∧ qa o k = x
theorem Fnd.same {o : List Nat} {n x : Nat} (hn : n < o.length) (h : qa o n = x) : Fnd o (n + 1) x (n : Int) := .inr ⟨n, rfl, by omega, hn, h⟩
theorem Fnd.other {o : List Nat} {n x : Nat} {r : Int} (hn : n < o.length) (h : Fnd o n x r) (hne : qa o n ≠ x) : Fnd o (n + 1) x r := by
  rcases h with ⟨h1, h2⟩ | ⟨k, h1, h2, h3⟩
  · refine .inl ⟨h1, ?_⟩
    rw [take_succ_qa hn]
    simp only [List.mem_append, List.mem_singleton, not_or]
    exact ⟨h2, fun e => hne e.symm⟩
  · exact .inr ⟨k, h1, by omega, h3⟩
theorem Fnd.fin {g : List (List Nat)} {o : List Nat} {N i j : Nat} {r t : Int} (hR : Run g o) (hN : g.length = N) (hl : o.length = N) (hi : i < N) (hj : j < N) (hm : i ∈ row g j) (h1 : Fnd o N i r) (h2 : Fnd o N j t) : 0 ≤ t ∧ t < r := by
  have hin : ∀ x, x < N → x ∈ o.take N := fun x hx => by rw [List.take_of_length_le (by omega)]; exact nodup_all hR.nodup (fun y hy => by rw [← hN]; exact hR.bd y hy) hl x hx
  rcases h1 with ⟨_, h1⟩ | ⟨k, e1, k1, k2, k3⟩
  · exact absurd (hin i hi) h1
  · rcases h2 with ⟨_, h2⟩ | ⟨l, e2, l1, l2, l3⟩
    · exact absurd (hin j hj) h2
    · have := (hR k k2).1.2.2 j (by rw [k3]; exact hm)
      obtain ⟨q, q1, q2, q3⟩ := mem_take_qa this
      have := hR.inj q2 l2 (q3.trans l3.symm)
      omega
set_option maxHeartbeats 8000000 in
theorem strongBack_law (A : Option Addr) (c : Nat) (R : List Rw) (xa xb : Int) (w : World) (hA : RdG w w.heap.size A R) (hn : R.length ≤ 140737488355328) (hxa : -9223372036854775808 ≤ xa ∧ xa ≤ 9223372036854775807) (hxb : -9223372036854775808 ≤ xb ∧ xb ≤ 9223372036854775807) :
    Calls Try.prog 14 #[.agg #[.slice A R.length c], .agg #[.int .i64 xa, .int .i64 xb]] w fun e w' => e = .returned (.bool true) ∧ Below w.heap.size w w' := by
  clear hxa hxb
  obtain ⟨N, hN⟩ : ∃ N, R.length = N := ⟨_, rfl⟩
  rw [hN] at hn ⊢
  by_cases e0 : grE (gs R) = 0
  · obtain ⟨g, hg, hok⟩ := grE_zero _ e0
    have hgl : g.length = N := by have := congrArg List.length hg; rw [gs_length, List.length_map] at this; omega
    have hN1 : N ≤ 100 := by have := hok.nodes; omega
    have HOk : Hid (GOk g ∧ g.length = N) := ⟨hok, hgl⟩
    have HG0 := Lib.hid hg
    have HO := Lib.hid (lw_order R g hg hok N hgl)
    have HT := Lib.hid (lw_turn R g hg hok N hgl)
    clear e0 hN hn hg hok hgl
    have HB : Hid (Below w.heap.size w w) := Below.refl _ w
    have HR := Lib.hid hA; clear hA
    go_enter Try.func14, Try.ntmps14
    have HBq : Hid (Below w.heap.size w (w.alloc (.cells #[.slice A N c] 24))) := one_below _ _
    replace HB : Hid (Below w.heap.size w (w.alloc (.cells #[.slice A N c] 24))) := HB.out.trans (HBq.out.mono HB.out.size)
    replace HR : Hid (RdG (w.alloc (.cells #[.slice A N c] 24)) ((w.alloc (.cells #[.slice A N c] 24))).heap.size A R) := HR.out.on HBq.out
    clear HBq
    have K0 : Hid (((w.alloc (.cells #[.slice A N c] 24))).cell? ⟨w.heap.size, 0, none⟩ = some (.slice A N c)) := (cell_at (World.alloc_heap_new w _) 0).trans rfl
    have HBq : Hid (Below (w.alloc (.cells #[.slice A N c] 24)).heap.size (w.alloc (.cells #[.slice A N c] 24)) ((w.alloc (.cells #[.slice A N c] 24)).alloc (.cells #[.int .i64 xa, .int .i64 xb] 65))) := one_below _ _
    replace HB : Hid (Below w.heap.size w ((w.alloc (.cells #[.slice A N c] 24)).alloc (.cells #[.int .i64 xa, .int .i64 xb] 65))) := HB.out.trans (HBq.out.mono HB.out.size)
    replace HR : Hid (RdG ((w.alloc (.cells #[.slice A N c] 24)).alloc (.cells #[.int .i64 xa, .int .i64 xb] 65)) (((w.alloc (.cells #[.slice A N c] 24)).alloc (.cells #[.int .i64 xa, .int .i64 xb] 65))).heap.size A R) := HR.out.on HBq.out
    replace K0 : Hid ((((w.alloc (.cells #[.slice A N c] 24)).alloc (.cells #[.int .i64 xa, .int .i64 xb] 65))).cell? ⟨w.heap.size, 0, none⟩ = some (.slice A N c)) := (HBq.out.cell (World.block_lt_of_cell? _ _ K0.out)).trans K0.out
    clear HBq
    have hsz : (w.alloc (.cells #[.slice A N c] 24)).heap.size = w.heap.size + 1 := World.size_alloc _ _
    have KA0 : Hid ((((w.alloc (.cells #[.slice A N c] 24)).alloc (.cells #[.int .i64 xa, .int .i64 xb] 65))).cell? ⟨w.heap.size + 1, 0, none⟩ = some (.int .i64 xa)) := by have h1 := World.alloc_heap_new (w.alloc (.cells #[.slice A N c] 24)) (.cells #[.int .i64 xa, .int .i64 xb] 65); rw [hsz] at h1; exact (cell_at h1 0).trans rfl
    have KA1 : Hid ((((w.alloc (.cells #[.slice A N c] 24)).alloc (.cells #[.int .i64 xa, .int .i64 xb] 65))).cell? ⟨w.heap.size + 1, 1, none⟩ = some (.int .i64 xb)) := by have h1 := World.alloc_heap_new (w.alloc (.cells #[.slice A N c] 24)) (.cells #[.int .i64 xa, .int .i64 xb] 65); rw [hsz] at h1; exact (cell_at h1 1).trans rfl
    clear hsz
    have HC := Lib.hid (HO.out A c _ HR.out)
    have k_K0 := K0.out
    go_wp2_with fail
    clear k_K0
    refine HC.out.mono ?_
    rintro e w1 ⟨A1, n1, c1, o, e1, rfl, hl1, ho1, q1, bq⟩
    clear HC
    have HBc := Lib.hid bq; clear bq
    have HBq : Hid (Below ((w.alloc (.cells #[.slice A N c] 24)).alloc (.cells #[.int .i64 xa, .int .i64 xb] 65)).heap.size ((w.alloc (.cells #[.slice A N c] 24)).alloc (.cells #[.int .i64 xa, .int .i64 xb] 65)) w1) := HBc.out
    replace HB : Hid (Below w.heap.size w w1) := HB.out.trans (HBq.out.mono HB.out.size)
    replace HR : Hid (RdG w1 (w1).heap.size A R) := HR.out.on HBq.out
    replace K0 : Hid ((w1).cell? ⟨w.heap.size, 0, none⟩ = some (.slice A N c)) := (HBq.out.cell (World.block_lt_of_cell? _ _ K0.out)).trans K0.out
    replace KA0 : Hid ((w1).cell? ⟨w.heap.size + 1, 0, none⟩ = some (.int .i64 xa)) := (HBq.out.cell (World.block_lt_of_cell? _ _ KA0.out)).trans KA0.out
    replace KA1 : Hid ((w1).cell? ⟨w.heap.size + 1, 1, none⟩ = some (.int .i64 xb)) := (HBq.out.cell (World.block_lt_of_cell? _ _ KA1.out)).trans KA1.out
    clear HBq
    clear HBc
    have HO1 := Lib.hid ho1; clear ho1
    have Q1 : Hid (RdV w1 (w1).heap.size A1 (zc (ns o))) := q1
    clear q1
    have HC := Lib.hid (HT.out A c _ HR.out)
    have k_K0 := K0.out
    go_wp2_with fail
    clear k_K0
    refine HC.out.mono ?_
    rintro e w2 ⟨A2, R2, c2, rfl, g2, h2, bq⟩
    clear HC
    have HBc := Lib.hid bq; clear bq
    have HBq : Hid (Below w1.heap.size w1 w2) := HBc.out
    replace HB : Hid (Below w.heap.size w w2) := HB.out.trans (HBq.out.mono HB.out.size)
    replace HR : Hid (RdG w2 (w2).heap.size A R) := HR.out.on HBq.out
    replace K0 : Hid ((w2).cell? ⟨w.heap.size, 0, none⟩ = some (.slice A N c)) := (HBq.out.cell (World.block_lt_of_cell? _ _ K0.out)).trans K0.out
    replace KA0 : Hid ((w2).cell? ⟨w.heap.size + 1, 0, none⟩ = some (.int .i64 xa)) := (HBq.out.cell (World.block_lt_of_cell? _ _ KA0.out)).trans KA0.out
    replace KA1 : Hid ((w2).cell? ⟨w.heap.size + 1, 1, none⟩ = some (.int .i64 xb)) := (HBq.out.cell (World.block_lt_of_cell? _ _ KA1.out)).trans KA1.out
    replace Q1 : Hid (RdV w2 (w2).heap.size A1 (zc (ns o))) := Q1.out.on HBq.out
    clear HBq
    clear HBc
    have G2 := Lib.hid g2; clear g2
    have H2 : Hid (RdG w2 (w2).heap.size A2 R2) := h2
    clear h2
    have HBq : Hid (Below w2.heap.size w2 (w2.alloc (.cells #[.slice A2 N c2] 24))) := one_below _ _
    replace HB : Hid (Below w.heap.size w (w2.alloc (.cells #[.slice A2 N c2] 24))) := HB.out.trans (HBq.out.mono HB.out.size)
    replace HR : Hid (RdG (w2.alloc (.cells #[.slice A2 N c2] 24)) ((w2.alloc (.cells #[.slice A2 N c2] 24))).heap.size A R) := HR.out.on HBq.out
    replace K0 : Hid (((w2.alloc (.cells #[.slice A2 N c2] 24))).cell? ⟨w.heap.size, 0, none⟩ = some (.slice A N c)) := (HBq.out.cell (World.block_lt_of_cell? _ _ K0.out)).trans K0.out
    replace KA0 : Hid (((w2.alloc (.cells #[.slice A2 N c2] 24))).cell? ⟨w.heap.size + 1, 0, none⟩ = some (.int .i64 xa)) := (HBq.out.cell (World.block_lt_of_cell? _ _ KA0.out)).trans KA0.out
    replace KA1 : Hid (((w2.alloc (.cells #[.slice A2 N c2] 24))).cell? ⟨w.heap.size + 1, 1, none⟩ = some (.int .i64 xb)) := (HBq.out.cell (World.block_lt_of_cell? _ _ KA1.out)).trans KA1.out
    replace Q1 : Hid (RdV (w2.alloc (.cells #[.slice A2 N c2] 24)) ((w2.alloc (.cells #[.slice A2 N c2] 24))).heap.size A1 (zc (ns o))) := Q1.out.on HBq.out
    replace H2 : Hid (RdG (w2.alloc (.cells #[.slice A2 N c2] 24)) ((w2.alloc (.cells #[.slice A2 N c2] 24))).heap.size A2 R2) := H2.out.on HBq.out
    clear HBq
    have K2 : Hid (((w2.alloc (.cells #[.slice A2 N c2] 24))).cell? ⟨w2.heap.size, 0, none⟩ = some (.slice A2 N c2)) := (cell_at (World.alloc_heap_new w2 _) 0).trans rfl
    have HC := Lib.hid (strongbegun_true (w2.alloc (.cells #[.slice A2 N c2] 24)))
    go_wp2_with fail
    refine HC.out.mono ?_
    rintro e w3 ⟨rfl, bq⟩
    clear HC
    have HBc := Lib.hid bq; clear bq
    have HBq : Hid (Below (w2.alloc (.cells #[.slice A2 N c2] 24)).heap.size (w2.alloc (.cells #[.slice A2 N c2] 24)) w3) := HBc.out
    replace HB : Hid (Below w.heap.size w w3) := HB.out.trans (HBq.out.mono HB.out.size)
    replace HR : Hid (RdG w3 (w3).heap.size A R) := HR.out.on HBq.out
    replace K0 : Hid ((w3).cell? ⟨w.heap.size, 0, none⟩ = some (.slice A N c)) := (HBq.out.cell (World.block_lt_of_cell? _ _ K0.out)).trans K0.out
    replace KA0 : Hid ((w3).cell? ⟨w.heap.size + 1, 0, none⟩ = some (.int .i64 xa)) := (HBq.out.cell (World.block_lt_of_cell? _ _ KA0.out)).trans KA0.out
    replace KA1 : Hid ((w3).cell? ⟨w.heap.size + 1, 1, none⟩ = some (.int .i64 xb)) := (HBq.out.cell (World.block_lt_of_cell? _ _ KA1.out)).trans KA1.out
    replace Q1 : Hid (RdV w3 (w3).heap.size A1 (zc (ns o))) := Q1.out.on HBq.out
    replace H2 : Hid (RdG w3 (w3).heap.size A2 R2) := H2.out.on HBq.out
    replace K2 : Hid ((w3).cell? ⟨w2.heap.size, 0, none⟩ = some (.slice A2 N c2)) := (HBq.out.cell (World.block_lt_of_cell? _ _ K2.out)).trans K2.out
    clear HBq
    clear HBc
    have HC := Lib.hid (graphbegun_true w3)
    go_wp2_with fail
    refine HC.out.mono ?_
    rintro e w4 ⟨rfl, bq⟩
    clear HC
    have HBc := Lib.hid bq; clear bq
    have HBq : Hid (Below w3.heap.size w3 w4) := HBc.out
    replace HB : Hid (Below w.heap.size w w4) := HB.out.trans (HBq.out.mono HB.out.size)
    replace HR : Hid (RdG w4 (w4).heap.size A R) := HR.out.on HBq.out
    replace K0 : Hid ((w4).cell? ⟨w.heap.size, 0, none⟩ = some (.slice A N c)) := (HBq.out.cell (World.block_lt_of_cell? _ _ K0.out)).trans K0.out
    replace KA0 : Hid ((w4).cell? ⟨w.heap.size + 1, 0, none⟩ = some (.int .i64 xa)) := (HBq.out.cell (World.block_lt_of_cell? _ _ KA0.out)).trans KA0.out
    replace KA1 : Hid ((w4).cell? ⟨w.heap.size + 1, 1, none⟩ = some (.int .i64 xb)) := (HBq.out.cell (World.block_lt_of_cell? _ _ KA1.out)).trans KA1.out
    replace Q1 : Hid (RdV w4 (w4).heap.size A1 (zc (ns o))) := Q1.out.on HBq.out
    replace H2 : Hid (RdG w4 (w4).heap.size A2 R2) := H2.out.on HBq.out
    replace K2 : Hid ((w4).cell? ⟨w2.heap.size, 0, none⟩ = some (.slice A2 N c2)) := (HBq.out.cell (World.block_lt_of_cell? _ _ K2.out)).trans K2.out
    clear HBq
    clear HBc
    have k0 := K0.out
    rcases HO1.out with ⟨rfl, hR, hlo⟩ | ⟨rfl, rfl, -⟩
    · obtain rfl : n1 = N := by rw [← hl1, hlo]; exact HOk.out.2
      have HRu := Lib.hid (⟨hR, hl1⟩ : Run g o ∧ o.length = n1)
      clear hR hlo hl1
      have ka0 := KA0.out
      have ka1 := KA1.out
      by_cases hi0 : xa < 0
      · have t1 : decide (xa < 0) = true := decide_eq_true hi0
        go_wp2
        go_ret
        exact ⟨rfl, HB.out⟩
      · have t1 : decide (xa < 0) = false := decide_eq_false hi0
        by_cases hi1 : (n1 : Int) ≤ xa
        · have t2 : decide ((n1 : Int) ≤ xa) = true := decide_eq_true hi1
          go_wp2
          go_ret
          exact ⟨rfl, HB.out⟩
        · have t2 : decide ((n1 : Int) ≤ xa) = false := decide_eq_false hi1
          by_cases hj0 : xb < 0
          · have t3 : decide (xb < 0) = true := decide_eq_true hj0
            go_wp2
            go_ret
            exact ⟨rfl, HB.out⟩
          · have t3 : decide (xb < 0) = false := decide_eq_false hj0
            by_cases hj1 : (n1 : Int) ≤ xb
            · have t4 : decide ((n1 : Int) ≤ xb) = true := decide_eq_true hj1
              go_wp2
              go_ret
              exact ⟨rfl, HB.out⟩
            · obtain ⟨i, rfl⟩ := Int.eq_ofNat_of_zero_le (by omega : 0 ≤ xa)
              obtain ⟨j, rfl⟩ := Int.eq_ofNat_of_zero_le (by omega : 0 ≤ xb)
              have hi : i < n1 := by omega
              have hj : j < n1 := by omega
              have t2n : decide (n1 ≤ i) = false := by simp; omega
              have t4 : decide ((n1 : Int) ≤ (j : Int)) = false := decide_eq_false hj1
              have t4n : decide (n1 ≤ j) = false := by simp; omega
              clear hi0 hi1 hj0 hj1
              have hL : decide ((j : Int) ∈ (R2[i]?.getD (none, 0, [])).2.2) = decide (i ∈ row g j) := by
                rw [row_ofD R2 (gturn g) G2.out i (by rw [gturn_length, HOk.out.2]; exact hi)]
                refine decide_eq_decide.2 ?_
                rw [← gturn_memD HOk.out.1 i j]
                unfold ns
                simp only [List.mem_map]
                exact ⟨fun ⟨y, h1, h2⟩ => (show y = j by omega) ▸ h1, fun h1 => ⟨j, h1, rfl⟩⟩
              have HLd := Lib.hid (leads_any R2 n1 ((lw_len G2.out).trans ((gturn_length g).trans HOk.out.2)) A2 c2 i hi (j : Int) w4 H2.out)
              rw [hL] at HLd
              clear hL
              have k2 := K2.out
              have HRd := Lib.hid Q1.out
              have HKa : Hid (∀ V, Below w4.heap.size w4 V → V.cell? ⟨w.heap.size + 1, 0, none⟩ = some (.int .i64 (i : Int)) ∧ V.cell? ⟨w.heap.size + 1, 1, none⟩ = some (.int .i64 (j : Int))) := fun V hV => ⟨(hV.cell (World.block_lt_of_cell? _ _ ka0)).trans ka0, (hV.cell (World.block_lt_of_cell? _ _ ka1)).trans ka1⟩
              by_cases hm : i ∈ row g j
              · rw [decide_eq_true hm] at HLd
                have HM := Lib.hid hm; clear hm
                go_wp2_with fail
                refine HLd.out.mono ?_
                rintro e w5 ⟨rfl, b5⟩
                have HB5 := Lib.hid b5; clear b5 ka0 ka1 k0 k2 HLd
                go_wp2
                go_loopw [10, 11, 12] (fun a b p wr => ∃ (n : Nat) (r t : Int), n ≤ n1 ∧ p = .int .i64 (n : Int) ∧ a = .int .i64 r ∧ b = .int .i64 t ∧ Fnd o n i r ∧ Fnd o n j t ∧ Below w4.heap.size w4 wr) (fun _ _ p _ => n1 - (intOf p).toNat)
                case atStart => exact ⟨0, -1, -1, Nat.zero_le _, rfl, rfl, rfl, .inl ⟨rfl, by simp⟩, .inl ⟨rfl, by simp⟩, HB5.out⟩
                case round =>
                 as_aux_lemma =>
                  obtain ⟨n, r, t, hn, rfl, rfl, rfl, hf1, hf2, hb⟩ := hrel
                  by_cases hlt : n < n1
                  · have hno : n < o.length := by rw [HRu.out.2]; exact hlt
                    obtain ⟨ba, oa, eA, hba, k1⟩ := (HRd.out.on hb).at_ (zc_getN o n (qa o n) (qa_eq hno))
                    subst eA
                    have HRc : Hid (∀ V, Below w4.heap.size w4 V → V.cell? ⟨ba, oa + n, none⟩ = some (.int .i64 ((qa o n : Nat) : Int))) := fun V hV => rdv_off (HRd.out.on hV) (zc_getN o n (qa o n) (qa_eq hno))
                    obtain ⟨ka0, ka1⟩ := HKa.out wr hb
                    have HF1 := Lib.hid hf1; have HF2 := Lib.hid hf2; have HBw := Lib.hid hb
                    have t5 : (0 : Int) ≤ (n : Int) := by omega
                    have t6 : (n : Int) < (n1 : Int) := by omega
                    have HS1 : Hid (qa o n = i → Fnd o (n + 1) i (n : Int)) := fun e => Fnd.same hno e
                    have HS2 : Hid (qa o n = j → Fnd o (n + 1) j (n : Int)) := fun e => Fnd.same hno e
                    have HN1 : Hid (qa o n ≠ i → Fnd o (n + 1) i r) := fun e => hf1.other hno e
                    have HN2 : Hid (qa o n ≠ j → Fnd o (n + 1) j t) := fun e => hf2.other hno e
                    clear hf1 hf2 hb hno hba
                    generalize qa o n = u at *
                    by_cases e1 : u = i
                    · have t7 : ((u : Int) == (i : Int)) = true := by simp; omega
                      have HA := Lib.hid (HS1.out e1)
                      go_wp2
                      go_quiet (fail)
                      have hbq : Below w4.heap.size w4 (wr.drewN nq) := below_drewN HBw.out nq
                      generalize wr.drewN nq = wr1 at *
                      obtain ⟨ka0, ka1⟩ := HKa.out wr1 hbq
                      have k1 := HRc.out wr1 hbq
                      have HBx := Lib.hid hbq; clear hbq
                      by_cases e2 : u = j
                      · have t8 : ((u : Int) == (j : Int)) = true := by simp; omega
                        have HA2 := Lib.hid (HS2.out e2)
                        clear e1 e2
                        go_wp2
                        go_quiet (fail)
                        go_wp2
                        go_roundw
                        case rel => exact ⟨n + 1, _, _, by omega, by go_num, rfl, rfl, HA.out, HA2.out, below_drewN HBx.out _⟩
                        case measure => simp [intOf]; omega
                      · have t8 : ((u : Int) == (j : Int)) = false := by simp; omega
                        have HA2 := Lib.hid (HN2.out e2)
                        clear e1 e2
                        go_wp2
                        go_quiet (fail)
                        go_wp2
                        go_roundw
                        case rel => exact ⟨n + 1, _, _, by omega, by go_num, rfl, rfl, HA.out, HA2.out, below_drewN HBx.out _⟩
                        case measure => simp [intOf]; omega
                    · have t7 : ((u : Int) == (i : Int)) = false := by simp; omega
                      have HA := Lib.hid (HN1.out e1)
                      go_wp2
                      go_quiet (fail)
                      have hbq : Below w4.heap.size w4 (wr.drewN nq) := below_drewN HBw.out nq
                      generalize wr.drewN nq = wr1 at *
                      obtain ⟨ka0, ka1⟩ := HKa.out wr1 hbq
                      have k1 := HRc.out wr1 hbq
                      have HBx := Lib.hid hbq; clear hbq
                      by_cases e2 : u = j
                      · have t8 : ((u : Int) == (j : Int)) = true := by simp; omega
                        have HA2 := Lib.hid (HS2.out e2)
                        clear e1 e2
                        go_wp2
                        go_quiet (fail)
                        go_wp2
                        go_roundw
                        case rel => exact ⟨n + 1, _, _, by omega, by go_num, rfl, rfl, HA.out, HA2.out, below_drewN HBx.out _⟩
                        case measure => simp [intOf]; omega
                      · have t8 : ((u : Int) == (j : Int)) = false := by simp; omega
                        have HA2 := Lib.hid (HN2.out e2)
                        clear e1 e2
                        go_wp2
                        go_quiet (fail)
                        go_wp2
                        go_roundw
                        case rel => exact ⟨n + 1, _, _, by omega, by go_num, rfl, rfl, HA.out, HA2.out, below_drewN HBx.out _⟩
                        case measure => simp [intOf]; omega
                  · obtain rfl : n = n1 := by omega
                    obtain ⟨h1, h2⟩ := Fnd.fin HRu.out.1 HOk.out.2 HRu.out.2 hi hj HM.out hf1 hf2
                    have t5 : decide ((0 : Int) ≤ t) = true := decide_eq_true h1
                    have t6 : decide (t < r) = true := decide_eq_true h2
                    have HBf : Hid (Below w.heap.size w wr) := HB.out.trans (hb.mono HB.out.size)
                    clear hf1 hf2 hb h1 h2
                    go_wp2
                    go_ret
                    exact ⟨rfl, HBf.out⟩
              · rw [decide_eq_false hm] at HLd
                go_wp2_with fail
                refine HLd.out.mono ?_
                rintro e w5 ⟨rfl, b5⟩
                have HB5 : Hid (Below w.heap.size w w5) := HB.out.trans (b5.mono HB.out.size)
                clear b5
                go_wp2
                go_ret
                exact ⟨rfl, HB5.out⟩
    · go_wp2
      go_ret
      exact ⟨rfl, HB.out⟩
  · have HO := Lib.hid (lw_order_e R N hN hn _ rfl e0)
    have HT := Lib.hid (lw_turn_e R N hN hn _ rfl e0)
    have t1 : (grE (gs R) == 0) = false := by simpa using e0
    have u1 : (grE (gs R) != 0) = true := by simpa using e0
    clear e0 hN hn
    generalize grE (gs R) = e1 at *
    have HB : Hid (Below w.heap.size w w) := Below.refl _ w
    have HR := Lib.hid hA; clear hA
    go_enter Try.func14, Try.ntmps14
    have HBq : Hid (Below w.heap.size w (w.alloc (.cells #[.slice A N c] 24))) := one_below _ _
    replace HB : Hid (Below w.heap.size w (w.alloc (.cells #[.slice A N c] 24))) := HB.out.trans (HBq.out.mono HB.out.size)
    replace HR : Hid (RdG (w.alloc (.cells #[.slice A N c] 24)) ((w.alloc (.cells #[.slice A N c] 24))).heap.size A R) := HR.out.on HBq.out
    clear HBq
    have K0 : Hid (((w.alloc (.cells #[.slice A N c] 24))).cell? ⟨w.heap.size, 0, none⟩ = some (.slice A N c)) := (cell_at (World.alloc_heap_new w _) 0).trans rfl
    have HBq : Hid (Below (w.alloc (.cells #[.slice A N c] 24)).heap.size (w.alloc (.cells #[.slice A N c] 24)) ((w.alloc (.cells #[.slice A N c] 24)).alloc (.cells #[.int .i64 xa, .int .i64 xb] 65))) := one_below _ _
    replace HB : Hid (Below w.heap.size w ((w.alloc (.cells #[.slice A N c] 24)).alloc (.cells #[.int .i64 xa, .int .i64 xb] 65))) := HB.out.trans (HBq.out.mono HB.out.size)
    replace HR : Hid (RdG ((w.alloc (.cells #[.slice A N c] 24)).alloc (.cells #[.int .i64 xa, .int .i64 xb] 65)) (((w.alloc (.cells #[.slice A N c] 24)).alloc (.cells #[.int .i64 xa, .int .i64 xb] 65))).heap.size A R) := HR.out.on HBq.out
    replace K0 : Hid ((((w.alloc (.cells #[.slice A N c] 24)).alloc (.cells #[.int .i64 xa, .int .i64 xb] 65))).cell? ⟨w.heap.size, 0, none⟩ = some (.slice A N c)) := (HBq.out.cell (World.block_lt_of_cell? _ _ K0.out)).trans K0.out
    clear HBq
    have hsz : (w.alloc (.cells #[.slice A N c] 24)).heap.size = w.heap.size + 1 := World.size_alloc _ _
    have KA0 : Hid ((((w.alloc (.cells #[.slice A N c] 24)).alloc (.cells #[.int .i64 xa, .int .i64 xb] 65))).cell? ⟨w.heap.size + 1, 0, none⟩ = some (.int .i64 xa)) := by have h1 := World.alloc_heap_new (w.alloc (.cells #[.slice A N c] 24)) (.cells #[.int .i64 xa, .int .i64 xb] 65); rw [hsz] at h1; exact (cell_at h1 0).trans rfl
    have KA1 : Hid ((((w.alloc (.cells #[.slice A N c] 24)).alloc (.cells #[.int .i64 xa, .int .i64 xb] 65))).cell? ⟨w.heap.size + 1, 1, none⟩ = some (.int .i64 xb)) := by have h1 := World.alloc_heap_new (w.alloc (.cells #[.slice A N c] 24)) (.cells #[.int .i64 xa, .int .i64 xb] 65); rw [hsz] at h1; exact (cell_at h1 1).trans rfl
    clear hsz
    have HC := Lib.hid (HO.out A c _ HR.out)
    have k_K0 := K0.out
    go_wp2_with fail
    clear k_K0
    refine HC.out.mono ?_
    rintro e w1 ⟨A1, c1, rfl, -, bq⟩
    clear HC
    have HBc := Lib.hid bq; clear bq
    have HBq : Hid (Below ((w.alloc (.cells #[.slice A N c] 24)).alloc (.cells #[.int .i64 xa, .int .i64 xb] 65)).heap.size ((w.alloc (.cells #[.slice A N c] 24)).alloc (.cells #[.int .i64 xa, .int .i64 xb] 65)) w1) := HBc.out
    replace HB : Hid (Below w.heap.size w w1) := HB.out.trans (HBq.out.mono HB.out.size)
    replace HR : Hid (RdG w1 (w1).heap.size A R) := HR.out.on HBq.out
    replace K0 : Hid ((w1).cell? ⟨w.heap.size, 0, none⟩ = some (.slice A N c)) := (HBq.out.cell (World.block_lt_of_cell? _ _ K0.out)).trans K0.out
    replace KA0 : Hid ((w1).cell? ⟨w.heap.size + 1, 0, none⟩ = some (.int .i64 xa)) := (HBq.out.cell (World.block_lt_of_cell? _ _ KA0.out)).trans KA0.out
    replace KA1 : Hid ((w1).cell? ⟨w.heap.size + 1, 1, none⟩ = some (.int .i64 xb)) := (HBq.out.cell (World.block_lt_of_cell? _ _ KA1.out)).trans KA1.out
    clear HBq
    clear HBc
    have HC := Lib.hid (HT.out A c _ HR.out)
    have k_K0 := K0.out
    go_wp2_with fail
    clear k_K0
    refine HC.out.mono ?_
    rintro e w2 ⟨A2, c2, rfl, bq⟩
    clear HC
    have HBc := Lib.hid bq; clear bq
    have HBq : Hid (Below w1.heap.size w1 w2) := HBc.out
    replace HB : Hid (Below w.heap.size w w2) := HB.out.trans (HBq.out.mono HB.out.size)
    replace HR : Hid (RdG w2 (w2).heap.size A R) := HR.out.on HBq.out
    replace K0 : Hid ((w2).cell? ⟨w.heap.size, 0, none⟩ = some (.slice A N c)) := (HBq.out.cell (World.block_lt_of_cell? _ _ K0.out)).trans K0.out
    replace KA0 : Hid ((w2).cell? ⟨w.heap.size + 1, 0, none⟩ = some (.int .i64 xa)) := (HBq.out.cell (World.block_lt_of_cell? _ _ KA0.out)).trans KA0.out
    replace KA1 : Hid ((w2).cell? ⟨w.heap.size + 1, 1, none⟩ = some (.int .i64 xb)) := (HBq.out.cell (World.block_lt_of_cell? _ _ KA1.out)).trans KA1.out
    clear HBq
    clear HBc
    have HBq : Hid (Below w2.heap.size w2 (w2.alloc (.cells #[.slice A2 0 c2] 24))) := one_below _ _
    replace HB : Hid (Below w.heap.size w (w2.alloc (.cells #[.slice A2 0 c2] 24))) := HB.out.trans (HBq.out.mono HB.out.size)
    replace HR : Hid (RdG (w2.alloc (.cells #[.slice A2 0 c2] 24)) ((w2.alloc (.cells #[.slice A2 0 c2] 24))).heap.size A R) := HR.out.on HBq.out
    replace K0 : Hid (((w2.alloc (.cells #[.slice A2 0 c2] 24))).cell? ⟨w.heap.size, 0, none⟩ = some (.slice A N c)) := (HBq.out.cell (World.block_lt_of_cell? _ _ K0.out)).trans K0.out
    replace KA0 : Hid (((w2.alloc (.cells #[.slice A2 0 c2] 24))).cell? ⟨w.heap.size + 1, 0, none⟩ = some (.int .i64 xa)) := (HBq.out.cell (World.block_lt_of_cell? _ _ KA0.out)).trans KA0.out
    replace KA1 : Hid (((w2.alloc (.cells #[.slice A2 0 c2] 24))).cell? ⟨w.heap.size + 1, 1, none⟩ = some (.int .i64 xb)) := (HBq.out.cell (World.block_lt_of_cell? _ _ KA1.out)).trans KA1.out
    clear HBq
    have K2 : Hid (((w2.alloc (.cells #[.slice A2 0 c2] 24))).cell? ⟨w2.heap.size, 0, none⟩ = some (.slice A2 0 c2)) := (cell_at (World.alloc_heap_new w2 _) 0).trans rfl
    have HC := Lib.hid (strongbegun_true (w2.alloc (.cells #[.slice A2 0 c2] 24)))
    go_wp2_with fail
    refine HC.out.mono ?_
    rintro e w3 ⟨rfl, bq⟩
    clear HC
    have HBc := Lib.hid bq; clear bq
    have HBq : Hid (Below (w2.alloc (.cells #[.slice A2 0 c2] 24)).heap.size (w2.alloc (.cells #[.slice A2 0 c2] 24)) w3) := HBc.out
    replace HB : Hid (Below w.heap.size w w3) := HB.out.trans (HBq.out.mono HB.out.size)
    replace HR : Hid (RdG w3 (w3).heap.size A R) := HR.out.on HBq.out
    replace K0 : Hid ((w3).cell? ⟨w.heap.size, 0, none⟩ = some (.slice A N c)) := (HBq.out.cell (World.block_lt_of_cell? _ _ K0.out)).trans K0.out
    replace KA0 : Hid ((w3).cell? ⟨w.heap.size + 1, 0, none⟩ = some (.int .i64 xa)) := (HBq.out.cell (World.block_lt_of_cell? _ _ KA0.out)).trans KA0.out
    replace KA1 : Hid ((w3).cell? ⟨w.heap.size + 1, 1, none⟩ = some (.int .i64 xb)) := (HBq.out.cell (World.block_lt_of_cell? _ _ KA1.out)).trans KA1.out
    replace K2 : Hid ((w3).cell? ⟨w2.heap.size, 0, none⟩ = some (.slice A2 0 c2)) := (HBq.out.cell (World.block_lt_of_cell? _ _ K2.out)).trans K2.out
    clear HBq
    clear HBc
    have HC := Lib.hid (graphbegun_true w3)
    go_wp2_with fail
    refine HC.out.mono ?_
    rintro e w4 ⟨rfl, bq⟩
    clear HC
    have HBc := Lib.hid bq; clear bq
    have HBq : Hid (Below w3.heap.size w3 w4) := HBc.out
    replace HB : Hid (Below w.heap.size w w4) := HB.out.trans (HBq.out.mono HB.out.size)
    replace HR : Hid (RdG w4 (w4).heap.size A R) := HR.out.on HBq.out
    replace K0 : Hid ((w4).cell? ⟨w.heap.size, 0, none⟩ = some (.slice A N c)) := (HBq.out.cell (World.block_lt_of_cell? _ _ K0.out)).trans K0.out
    replace KA0 : Hid ((w4).cell? ⟨w.heap.size + 1, 0, none⟩ = some (.int .i64 xa)) := (HBq.out.cell (World.block_lt_of_cell? _ _ KA0.out)).trans KA0.out
    replace KA1 : Hid ((w4).cell? ⟨w.heap.size + 1, 1, none⟩ = some (.int .i64 xb)) := (HBq.out.cell (World.block_lt_of_cell? _ _ KA1.out)).trans KA1.out
    replace K2 : Hid ((w4).cell? ⟨w2.heap.size, 0, none⟩ = some (.slice A2 0 c2)) := (HBq.out.cell (World.block_lt_of_cell? _ _ K2.out)).trans K2.out
    clear HBq
    clear HBc
    have k0 := K0.out
    go_wp2
    go_ret
    exact ⟨rfl, HB.out⟩
end

section
section
open Go.ChangeShapes Go.WideShapes Go.ChangeAt Go.RowKit Go.Joins

theorem cells3i : Try.prog.cellsOf 3 = 1 := by kernel_rfl

set_option maxRecDepth 100000 in
/-- Numbers that were handed in. -/
theorem open_zs {H : Type} {enc : TypeId × Value → H} {W : World} {base : Nat} {v : Value} {d : DataW H} {p : List MemPlace}
    (hv : Value.okWide Try.prog W .any base 32 v) (h : DataW.Trod enc Try.prog W 0 (fun _ => true) true 32 v d p) :
    ∃ (A : Option Addr) (c : Nat) (xs : List Int), v = .slice A xs.length c ∧ xs.length ≤ c ∧ (A = none → c = 0) ∧ RdV W W.heap.size A (zc xs) ∧ (∀ x ∈ xs, -9223372036854775808 ≤ x ∧ x ≤ 9223372036854775807) ∧ xs.length ≤ 9223372036854775807 := by
  obtain ⟨a0, len0, cap0, rfl⟩ := okWide_slice Try.underlying32 hv
  obtain ⟨fuel, hf⟩ := h
  rcases open_ints Try.underlying32 Try.underlying3 cells3i hf with ⟨hcs, _⟩ | ⟨x, l, c, zs, hcs, _, hl, hm, hz, _, hcell, hwz⟩
  · simp [Value.cells] at hcs
    obtain ⟨rfl, rfl, rfl⟩ := hcs
    exact ⟨none, 0, [], rfl, by simp, fun _ => rfl, .inl rfl, by simp, by simp⟩
  · simp [Value.cells] at hcs
    obtain ⟨rfl, rfl, rfl⟩ := hcs
    have hzc : zs.length = cap0 := by simpa using hz
    have hlen : (zs.take len0).length = len0 := by rw [List.length_take]; omega
    unfold maxLen at hm
    refine ⟨some x, cap0, zs.take len0, by rw [hlen], by rw [hlen]; exact hl, (fun h => by cases h), ?_, ?_, by rw [hlen]; omega⟩
    · rcases Nat.eq_zero_or_pos len0 with h0 | h0
      · left; rw [h0]; rfl
      · obtain ⟨b, off, rfl, hc⟩ := ints_at hcell (by omega)
        refine .inr ⟨b, off, rfl, lt_of_cell (hc 0 (by omega)), fun i v hi => ?_⟩
        have hil : i < len0 := by
          rcases Nat.lt_or_ge i len0 with h | h
          · exact h
          · rw [List.getElem?_eq_none (by rw [zc_length, hlen]; exact h)] at hi; cases hi
        rw [zc_get _ i (by rw [hlen]; exact hil)] at hi
        cases hi
        rw [hc i (by omega)]
        have hz0 : zs.getD i 0 = zs[i]'(by omega) := by rw [List.getD_eq_getElem?_getD, List.getElem?_eq_getElem (by omega)]; rfl
        have e1 : (zs.take len0)[i]?.getD 0 = zs[i]'(by omega) := by
          rw [List.getElem?_take_of_lt hil, List.getElem?_eq_getElem (by omega)]; rfl
        rw [e1, hz0]
    · intro n hn
      exact bounds_i64 (hwz n (List.mem_of_mem_take hn))
end

section
open Go.ChangeShapes Go.WideShapes Go.ChangeAt Go.RowKit Go.Joins Go.Deep

theorem cellsG : Try.prog.cellsOf 24 = 1 := by kernel_rfl
theorem cellsL1 : Try.prog.cellsOf 32 = 1 := by kernel_rfl
theorem cellsL2 : Try.prog.cellsOf 22 = 1 := by kernel_rfl
theorem bytesL1 : Try.prog.bytesOf 32 = 24 := by kernel_rfl
theorem bytesI1 : Try.prog.bytesOf 3 = 8 := by kernel_rfl
theorem weightsAll_mem {H : Type} {P : Program} {e : TypeId} {n : Nat} : ∀ {l : List (DataW H)} {d : DataW H}, d ∈ l → n ∈ d.weights P e → n ∈ DataW.weightsAll P e l
  | x :: t, d, hd, hn => by
    simp only [DataW.weightsAll, List.mem_append]
    rcases List.mem_cons.1 hd with rfl | h
    · exact .inl hn
    · exact .inr (weightsAll_mem h hn)
theorem add_plG (b off k : Nat) : (⟨b, off, none⟩ : Addr).add k = ⟨b, off + k, none⟩ := by unfold Addr.add; split <;> simp_all
theorem zc_mem {l : List Int} {i : Nat} {v : Value} (h : (zc l)[i]? = some v) : ∃ hi : i < l.length, v = .int .i64 l[i] := by
  unfold zc at h
  rw [List.getElem?_map] at h
  obtain ⟨x, hx, rfl⟩ := Option.map_eq_some_iff.1 h
  obtain ⟨hi, rfl⟩ := List.getElem?_eq_some_iff.1 hx
  exact ⟨hi, rfl⟩
set_option maxRecDepth 100000 in
/-- A graph that was handed in. -/
theorem open_graph {H : Type} {enc : TypeId × Value → H} {W : World} {base : Nat} {v : Value} {d : DataW H} {p : List MemPlace}
    (hv : Value.okWide Try.prog W .any base 24 v) (h : DataW.Trod enc Try.prog W 0 (fun _ => true) true 24 v d p)
    (hz : ∀ n ∈ d.weights Try.prog 24, n ≤ reachBytes) :
    ∃ (A : Option Addr) (c : Nat) (R : List Rw), v = .agg #[.slice A R.length c] ∧ RdG W W.heap.size A R ∧ R.length ≤ 140737488355328 := by
  obtain ⟨cs, rfl, hsz⟩ := okWide_struct Try.underlying24 hv
  obtain ⟨c0, rfl⟩ := Array.size_eq_one_iff.1 (hsz.trans cellsG)
  obtain ⟨fuel, hf⟩ := h
  obtain ⟨y0, n, hx, _, h0⟩ := trod_struct1 Try.underlying24 hf
  simp only [Prod.mk.injEq] at hx
  obtain ⟨rfl, rfl⟩ := hx
  simp [Value.cells, cellsL2] at h0
  have hz0 : ∀ n ∈ y0.1.weights Try.prog 22, n ≤ reachBytes := fun n hn => hz n (by
    unfold DataW.weights
    rw [Try.underlying24]
    simp only [List.map_cons, List.map_nil, DataW.weightsEach, List.append_nil]
    exact hn)
  have hrb := reachBytes_lt
  rcases open_int_rows Try.underlying22 Try.underlying32 Try.underlying3 cellsL1 cells3i h0 with ⟨hcs, _⟩ | ⟨a, len, cap, A, L, C, Z, hcs, _, hl, hm, hx, hrow⟩
  · simp at hcs
    subst hcs
    exact ⟨none, 0, [], rfl, ⟨.inl rfl, fun r hr => by simp at hr⟩, by simp⟩
  · simp at hcs
    subst hcs
    rw [hx] at hz0
    have hlen : (len + (cap - len)) * 24 ≤ reachBytes := hz0 _ (by
      simp only [DataW.weights, Try.underlying22, List.length_map, List.length_range, bytesL1]
      exact List.mem_cons_self)
    have hrl : ∀ r, r < len → L r ≤ 140737488355328 := fun r hr => by
      obtain ⟨_, q1, q2, q3, _, q5, _⟩ := hrow r (by omega)
      cases hA : A r with
      | none => rw [q5 hA] at q1; omega
      | some a' =>
        have := hz0 (((Z r).take (L r)).length * 8 + ((Z r).drop (L r)).length * 8) (by
          simp only [DataW.weights, Try.underlying22, List.length_map, List.length_range, bytesL1]
          refine List.mem_cons_of_mem _ (List.mem_append.2 (.inl (weightsAll_mem (List.mem_map.2 ⟨r, List.mem_range.2 hr, rfl⟩) ?_)))
          unfold intRow
          rw [hA]
          simp only [DataW.weights, Try.underlying32, bytesI1, lits, List.length_map]
          refine List.mem_cons.2 (.inl ?_)
          omega)
        rw [List.length_take] at this
        omega
    refine ⟨some a, cap, (List.range len).map fun r => (A r, C r, (Z r).take (L r)), by simp, ⟨?_, ?_⟩, by simp; omega⟩
    · rcases Nat.eq_zero_or_pos len with h0 | h0
      · left; rw [h0]; rfl
      · obtain ⟨b, off, spot⟩ := a
        have hspot : spot = none := by simpa [Addr.add] using World.cell?_spot (hrow 0 (by omega)).1
        subst hspot
        refine .inr ⟨b, off, rfl, ?_, fun i v hi => ?_⟩
        · have := (hrow 0 (by omega)).1
          exact lt_of_cell (p := ⟨b, off + 0, none⟩) (by rw [← add_plG]; exact this)
        · unfold rcl at hi
          rw [List.getElem?_map, List.getElem?_map] at hi
          obtain ⟨y, hy, rfl⟩ := Option.map_eq_some_iff.1 hi
          obtain ⟨j, hj, rfl⟩ := Option.map_eq_some_iff.1 hy
          obtain ⟨hil, rfl⟩ := List.getElem?_eq_some_iff.1 hj
          rw [List.length_range] at hil
          have := hrow i (by omega)
          rw [add_plG] at this
          simp only [List.getElem_range]
          unfold sl
          simp only [List.length_take]
          rw [this.1]
          have e : min (L i) (Z i).length = L i := by have q1 := this.2.1; have q2 := this.2.2.2.1; omega
          rw [e]
    · intro r hr
      obtain ⟨i, hi, rfl⟩ := List.mem_map.1 hr
      have hil := List.mem_range.1 hi
      obtain ⟨q0, q1, q2, q3, q4, q5, q6⟩ := hrow i (by omega)
      refine ⟨?_, by simp only [List.length_take]; have := hrl i hil; omega⟩
      simp only
      rcases Nat.eq_zero_or_pos (L i) with h0 | h0
      · left; rw [h0]; rfl
      · cases hA : A i with
        | none => rw [q5 hA] at q1; omega
        | some a' =>
          obtain ⟨_, q7⟩ := q6 a' hA
          obtain ⟨b, off, spot⟩ := a'
          have hspot : spot = none := by simpa [Addr.add] using World.cell?_spot (q7 0 (by omega))
          subst hspot
          refine .inr ⟨b, off, rfl, ?_, fun j v hj => ?_⟩
          · have := q7 0 (by omega)
            exact lt_of_cell (p := ⟨b, off + 0, none⟩) (by rw [← add_plG]; exact this)
          · obtain ⟨hjl, rfl⟩ := zc_mem hj
            have hjl2 : j < L i := by rw [List.length_take] at hjl; omega
            have := q7 j (by omega)
            rw [add_plG] at this
            rw [this]
            simp [List.getD_eq_getElem?_getD, List.getElem?_eq_getElem (show j < (Z i).length by omega)]
end
end

section
open Go.ChangeShapes Go.WideShapes Go.ChangeAt Go.RowKit Go.Joins Go.Deep

theorem cellsArc : Try.prog.cellsOf 65 = 2 := by kernel_rfl
theorem add_plO (b off k : Nat) : (⟨b, off, none⟩ : Addr).add k = ⟨b, off + k, none⟩ := by unfold Addr.add; split <;> simp_all

set_option maxRecDepth 100000 in
/-- Arcs that were handed in. -/
theorem open_arcs {H : Type} {enc : TypeId × Value → H} {W : World} {base : Nat} {v : Value} {d : DataW H} {p : List MemPlace}
    (hv : Value.okWide Try.prog W .any base 25 v) (h : DataW.Trod enc Try.prog W 0 (fun _ => true) true 25 v d p) :
    ∃ (A : Option Addr) (c : Nat) (rs : List Ri), v = .slice A rs.length c ∧ rs.length ≤ c ∧ (A = none → c = 0) ∧ RdV W W.heap.size A (rcs rs) ∧ (∀ x ∈ rs, (-9223372036854775808 ≤ x.1 ∧ x.1 ≤ 9223372036854775807) ∧ (-9223372036854775808 ≤ x.2 ∧ x.2 ≤ 9223372036854775807)) ∧ rs.length ≤ 9223372036854775807 := by
  obtain ⟨a0, len0, cap0, rfl⟩ := okWide_slice Try.underlying25 hv
  obtain ⟨fuel, hf⟩ := h
  rcases open_slice_pairs Try.underlying25 Try.underlying65 cellsArc rfl rfl cells3i cells3i hf with ⟨hcs, _⟩ | ⟨a, len, cap, m, n, V0, V1, D0, D1, P0, P1, hcs, _, hl, hm, hmm, _, hx⟩
  · simp [Value.cells] at hcs
    obtain ⟨rfl, rfl, rfl⟩ := hcs
    exact ⟨none, 0, [], rfl, by simp, fun _ => rfl, .inl rfl, by simp, by simp⟩
  · simp [Value.cells] at hcs
    obtain ⟨rfl, rfl, rfl⟩ := hcs
    have hlm : len0 ≤ m := by rw [hmm]; simp; exact hl
    have each : ∀ i, i < len0 → ∃ x : Ri, W.cell? (a.add (i * 2)) = some (.int .i64 x.1) ∧ W.cell? (a.add (i * 2 + 1)) = some (.int .i64 x.2) ∧ (-9223372036854775808 ≤ x.1 ∧ x.1 ≤ 9223372036854775807) ∧ (-9223372036854775808 ≤ x.2 ∧ x.2 ≤ 9223372036854775807) := by
      intro i hi
      obtain ⟨k0, k1, t0, t1⟩ := hx i (by omega)
      obtain ⟨z, e0, _, w0⟩ := DataW.trod_int Try.underlying3 t0
      obtain ⟨y, e1, _, w1⟩ := DataW.trod_int Try.underlying3 t1
      simp at e0 e1
      rw [e0] at k0
      rw [e1] at k1
      exact ⟨(z, y), k0, k1, bounds_i64 w0, bounds_i64 w1⟩
    obtain ⟨q, hq⟩ := choose_lt each
    have hrl : ((List.range len0).map q).length = len0 := by simp
    have hqi : ∀ i, i < len0 → ((List.range len0).map q)[i]?.getD (0, 0) = q i := fun i hi => by rw [List.getElem?_map, List.getElem?_range hi]; rfl
    refine ⟨some a, cap0, (List.range len0).map q, by rw [hrl], by rw [hrl]; exact hl, (fun h => by cases h), ?_, ?_, by rw [hrl]; unfold maxLen at hm; omega⟩
    · rcases Nat.eq_zero_or_pos len0 with h0 | h0
      · left; rw [h0]; rfl
      · obtain ⟨b, off, spot⟩ := a
        have hspot : spot = none := by simpa [Addr.add] using World.cell?_spot (hq 0 h0).1
        subst hspot
        refine .inr ⟨b, off, rfl, ?_, fun i v hi => ?_⟩
        · have := (hq 0 h0).1
          exact lt_of_cell (p := ⟨b, off + 0 * 2, none⟩) (by rw [← add_plO]; exact this)
        · have hil : i < len0 * 2 := by have := (List.getElem?_eq_some_iff.1 hi).1; rwa [rcs_length, hrl] at this
          obtain ⟨g0, g1, _⟩ := hq (i / 2) (by omega)
          obtain ⟨r0, r1⟩ := rcs_at ((List.range len0).map q) (i / 2) (by rw [hrl]; omega)
          rw [hqi _ (by omega)] at r0 r1
          rw [add_plO] at g0 g1
          rcases (show i = i / 2 * 2 ∨ i = i / 2 * 2 + 1 by omega) with e | e
          · rw [← e] at r0 g0
            rw [r0] at hi; cases hi
            exact g0
          · rw [← e] at r1 g1
            rw [r1] at hi; cases hi
            exact g1
    · intro x hx'
      obtain ⟨i, hi, rfl⟩ := List.mem_map.1 hx'
      exact (hq i (List.mem_range.1 hi)).2.2

set_option maxRecDepth 100000 in
/-- An arc that was handed in. -/
theorem open_arc {H : Type} {enc : TypeId × Value → H} {W : World} {base : Nat} {v : Value} {d : DataW H} {p : List MemPlace}
    (hv : Value.okWide Try.prog W .any base 65 v) (h : DataW.Trod enc Try.prog W 0 (fun _ => true) true 65 v d p) :
    ∃ (x y : Int), v = .agg #[.int .i64 x, .int .i64 y] ∧ (-9223372036854775808 ≤ x ∧ x ≤ 9223372036854775807) ∧ (-9223372036854775808 ≤ y ∧ y ≤ 9223372036854775807) := by
  obtain ⟨c0, c1, y0, y1, m, rfl, rfl, rfl, hy0, hy1⟩ := open_agg2 Try.underlying65 (by kernel_rfl) cellsArc hv h
  obtain ⟨a, e0, _, wa⟩ := DataW.trod_int Try.underlying3 hy0
  obtain ⟨b, e1, _, wb⟩ := DataW.trod_int Try.underlying3 hy1
  simp at e0 e1
  subst e0; subst e1
  exact ⟨a, b, rfl, bounds_i64 wa, bounds_i64 wb⟩
end

section
open Go.ChangeShapes Go.WideShapes Go.ChangeAt Go.RowKit
open Go.ChangeMaps (open_string shut_string)

set_option linter.unusedVariables false
set_option maxRecDepth 100000 in
theorem strongBack_lifted (os : Os) (started : os.Started) (H : Type) (enc : TypeId × Value → H) :
    ReturnsInHanded {} Try.checked os 14 .any (Rows.strongBackSpec.pre6 enc Try.prog Try.f14 Rows.strongBackRow.domain false) (Rows.strongBackSpec.post enc Try.prog Try.f14 false true false false) := by
  refine returnsInHanded_of_change_sized (C := Try.checked) own started (by kernel_rfl) Try.func14
    (ChangeSpec.witness6 (enc := enc) (C := Try.checked) false ⟨#[], #[.agg #[.slice none 0 0], .agg #[.int .i64 0, .int .i64 0]], []⟩ 8 (by kernel_rfl) (by kernel_rfl) (by kernel_rfl) (by kernel_rfl)) ?_
  intro W base args ds gs before hval0 hW hcnd hzz _
  have hval : ∀ (j : Nat) t v, Try.f14.params[j]? = some t → args[j]? = some v → Value.okWide Try.prog W .any base t v := hval0
  have hW' := hW
  obtain ⟨p, q, hA0, hV, rfl, hfz, hnd⟩ := hW
  have hA : DataW.TrodAll enc Try.prog W 0 (fun _ => true) true Try.f14.params.toList args.toList ds p := hA0
  rw [Try.params14] at hA hval hzz
  obtain ⟨v0, vs0, d0, ds0, p0, q0, hargs, rfl, rfl, h0, r0⟩ := trodAll_cons hA
  obtain ⟨v1, vs1, d1, ds1, p1, q1, rfl, rfl, rfl, h1, r1⟩ := trodAll_cons r0
  obtain ⟨rfl, rfl, rfl⟩ := trodAll_nil r1
  obtain rfl : args = #[v0, v1] := by cases args; simp_all
  obtain ⟨rfl, rfl⟩ := trodVars_none hV
  have k0 := h0
  have lt0 : ∀ x ∈ p0, x.block < W.heap.size := by obtain ⟨m, hm⟩ := k0; exact DataW.trod_lt m _ _ _ hm
  obtain ⟨A0, c0, R0, rfl, rd0, nn0⟩ := open_graph (hval 0 24 v0 rfl rfl) h0 (fun n hn => of_decide_eq_true (List.all_eq_true.1 hzz n (DataW.weights_mem_each (j := 0) (t := 24) (d := d0) rfl rfl n hn)))
  have k1 := h1
  have lt1 : ∀ x ∈ p1, x.block < W.heap.size := by obtain ⟨m, hm⟩ := k1; exact DataW.trod_lt m _ _ _ hm
  obtain ⟨xa1, xb1, rfl, ba1, bb1⟩ := open_arc (hval 1 65 v1 rfl rfl) h1
  clear hA0 hval0
  refine (strongBack_law A0 c0 R0 xa1 xb1 W rd0 nn0 ba1 bb1).mono fun e W' ⟨he, bel⟩ => ?_
  subst he
  exact ⟨_, rfl, _, _, _, [], _, [], hW', trodAll_mk1 (shut_bool Try.underlying4 _), (trodAll_cons_mk (Below.trod laidOut (by kernel_rfl) (of_decide_eq_true (by kernel_rfl)) k0 bel lt0) (trodAll_cons_mk (Below.trod laidOut (by kernel_rfl) (of_decide_eq_true (by kernel_rfl)) k1 bel lt1) trodAll_mk0)), rfl, bel.frame _, fun h => by cases h⟩

theorem StrongBack_holds : Rows.StrongBackSaid :=
  OpenClaim.holds_of_wide 14 Try.f14 rfl rfl rfl rfl rfl rfl rfl ⟨rfl, rfl, rfl, rfl, rfl⟩ rfl rfl rfl rfl rfl (by kernel_rfl) Try.func14 (by kernel_rfl)
    (of_decide_eq_true (by kernel_rfl)) (by unfold Func.isWrapper; first | (rw [if_pos (by decide +kernel)]; kernel_rfl) | (rw [if_neg (by decide +kernel)]; exact ⟨rfl, rfl⟩))
    (fun os started H enc _ => strongBack_lifted os started H enc)
#print axioms StrongBack_holds
end
end Go.Proofs.Ytffgmjfanpgbbaa
