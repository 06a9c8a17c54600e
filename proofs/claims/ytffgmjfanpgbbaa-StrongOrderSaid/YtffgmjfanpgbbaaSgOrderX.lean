/- Is a list an order of a graph: what the law's own function answers, for whatever list. -/
import Derived.Test.YtffgmjfanpgbbaaSgJ
import Derived.Test.YtffgmjfanpgbbaaOpen
import Derived.Test.YtffgmjfanpgbbaaNMem
import Derived.Test.YtffgmjfanpgbbaaWChk
import Derived.Deep.Matrix
import Derived.Deep.SlicePairs
import Derived.SizedLaws
namespace Go.Proofs.Ytffgmjfanpgbbaa

section
set_option maxRecDepth 100000
set_option linter.unusedVariables false
open Go.RowKit Go.Shelf

/-- A list is an order of a graph: each node once, and none behind one to which it leads. -/
def Topo (g : List (List Nat)) (xs : List Int) : Prop := ∃ l : List Nat, xs = ns l ∧ l.length = g.length ∧ l.Nodup ∧ (∀ x ∈ l, x < g.length) ∧ ∀ k, k < l.length → ∀ y, qa l k ∈ row g y → y ∈ l.take k
theorem ns_take (l : List Nat) (i : Nat) : (ns l).take i = ns (l.take i) := by unfold ns; rw [List.map_take]
theorem ns_mem (l : List Nat) (x : Nat) : ((x : Int) ∈ ns l) ↔ x ∈ l := by
  unfold ns
  rw [List.mem_map]
  exact ⟨fun ⟨y, h1, h2⟩ => (show y = x by omega) ▸ h1, fun h => ⟨x, h, rfl⟩⟩
theorem ns_getS (l : List Nat) (i : Nat) (h : i < l.length) : (ns l)[i]?.getD 0 = ((qa l i : Nat) : Int) := by
  unfold ns; rw [List.getElem?_map, qa_eq h]; rfl
theorem nodup_qa {l : List Nat} (h : l.Nodup) {i j : Nat} (hi : i < l.length) (hj : j < l.length) (e : qa l i = qa l j) : i = j := by
  rw [← qa_get hi, ← qa_get hj] at e
  exact (List.getElem_inj h).1 e
theorem Topo.at_ {g : List (List Nat)} {xs : List Int} (h : Topo g xs) {i : Nat} (hi : i < xs.length) : 0 ≤ xs[i]?.getD 0 ∧ xs[i]?.getD 0 < (g.length : Int) ∧ xs[i]?.getD 0 ∉ xs.take i := by
  obtain ⟨l, rfl, h1, h2, h3, h4⟩ := h
  rw [ns_length] at hi
  rw [ns_getS l i hi, ns_take]
  have hb := h3 _ (qa_mem hi)
  refine ⟨by omega, by omega, fun q => ?_⟩
  obtain ⟨j, q1, q2, q3⟩ := mem_take_qa ((ns_mem _ _).1 q)
  have := nodup_qa h2 q2 hi q3
  omega
/-- The first ones are nodes, each once, and their places are kept. -/
def PfK (N : Nat) (xs : List Int) (i : Nat) (q : List Nat) : Prop := ∃ m : List Nat, xs.take i = ns m ∧ m.length = i ∧ m.Nodup ∧ (∀ x ∈ m, x < N) ∧ q.length = N ∧ ∀ k, k < i → qa q (qa m k) = k
theorem PfK.start (N : Nat) (xs : List Int) : PfK N xs 0 (List.replicate N 0) := ⟨[], by simp [ns], rfl, .nil, by simp, by simp, fun k hk => absurd hk (Nat.not_lt_zero _)⟩
theorem PfK.next {N i y : Nat} {xs : List Int} {q : List Nat} (h : PfK N xs i q) (hi : i < xs.length) (hy : xs[i]?.getD 0 = (y : Int)) (hyN : y < N) (hn : (y : Int) ∉ xs.take i) : PfK N xs (i + 1) (q.set y i) := by
  obtain ⟨m, h1, h2, h3, h4, h5, h6⟩ := h
  have hym : y ∉ m := fun q => hn (by rw [h1]; exact (ns_mem m y).2 q)
  refine ⟨m ++ [y], ?_, by simp [h2], List.nodup_append.2 ⟨h3, by simp, fun a ha b hb => by simp at hb; subst hb; exact fun e => hym (e ▸ ha)⟩, fun x hx => ?_, by rw [List.length_set]; exact h5, fun k hk => ?_⟩
  · rw [List.take_succ_eq_append_getElem hi, h1]
    rw [List.getElem?_eq_getElem hi] at hy
    have hy' : xs[i] = (y : Int) := hy
    rw [hy']; simp [ns]
  · rcases List.mem_append.1 hx with q | q
    · exact h4 x q
    · simp at q; omega
  · rw [qa_set _ _ _ _ (by omega)]
    by_cases e : k = i
    · subst e
      have : qa (m ++ [y]) k = y := by unfold qa; rw [← h2]; simp
      rw [this, if_pos rfl]
    · have hk' : k < m.length := by omega
      rw [qa_snoc _ hk', if_neg (show ¬ qa m k = y from fun e => hym (e ▸ qa_mem hk'))]
      exact h6 k (by omega)
/-- The whole list, and where each node is. -/
structure Pl (N : Nat) (xs : List Int) (q l : List Nat) : Prop where
  eq : xs = ns l
  len : l.length = N
  nd : l.Nodup
  bd : ∀ x ∈ l, x < N
  ql : q.length = N
  at1 : ∀ k, k < N → qa q (qa l k) = k
  at2 : ∀ x, x < N → qa q x < N ∧ qa l (qa q x) = x
theorem PfK.fin {N : Nat} {xs : List Int} {q : List Nat} (h : PfK N xs N q) (hl : xs.length = N) : ∃ l, Pl N xs q l := by
  obtain ⟨m, h1, h2, h3, h4, h5, h6⟩ := h
  rw [List.take_of_length_le (by omega)] at h1
  refine ⟨m, h1, h2, h3, h4, h5, h6, fun x hx => ?_⟩
  obtain ⟨k, hk, e⟩ := List.getElem_of_mem (nodup_all h3 h4 h2 x hx)
  rw [qa_get hk] at e
  have := h6 k (by omega)
  rw [e] at this
  rw [this]; exact ⟨by omega, e⟩
theorem Pl.no {g : List (List Nat)} {N x y : Nat} {xs : List Int} {q l : List Nat} (h : Pl N xs q l) (hN : g.length = N) (hm : x ∈ row g y) (hx : x < N) (hy : y < N) (hle : qa q x ≤ qa q y) : ¬ Topo g xs := by
  rintro ⟨l', e, h1, h2, h3, h4⟩
  obtain rfl : l = l' := ns_inj (h.eq.symm.trans e)
  obtain ⟨a1, a2⟩ := h.at2 x hx
  have := h4 (qa q x) (by rw [h.len]; exact a1) y (by rw [a2]; exact hm)
  obtain ⟨k, k1, k2, k3⟩ := mem_take_qa this
  have := h.at1 k (by rw [← h.len]; exact k2)
  rw [k3] at this
  omega
theorem Pl.yes {g : List (List Nat)} {N : Nat} {xs : List Int} {q l : List Nat} (h : Pl N xs q l) (hN : g.length = N) (ha : ∀ y, y < N → ∀ x ∈ row g y, qa q y < qa q x) : Topo g xs := by
  refine ⟨l, h.eq, h.len.trans hN.symm, h.nd, by rw [hN]; exact h.bd, fun k hk y hy => ?_⟩
  have hkN : k < N := by rw [← h.len]; exact hk
  have hyN : y < N := by rw [← hN]; exact row_lt hy
  have h1 := ha y hyN _ hy
  rw [h.at1 k hkN] at h1
  obtain ⟨a1, a2⟩ := h.at2 y hyN
  have := qa_mem_take (o := l) h1 (by rw [h.len]; exact a1)
  rwa [a2] at this
set_option maxHeartbeats 8000000 in
theorem on_any (R : List Rw) (g : List (List Nat)) (hg : gs R = g.map ns) (hok : GOk g) (N : Nat) (hN : g.length = N) (Ag : Option Addr) (cg Bg : Nat) (xs : List Int) (n : Nat) (hn : xs.length = n) (hn2 : n ≤ 9223372036854775807) (A : Option Addr) (c : Nat) (hc : n ≤ c) (w : World) (hbox : w.heap[Bg]? = some (.cells #[.slice Ag N cg] 24 (0, 0))) (hR : RdG w w.heap.size Ag R) (hX : RdV w w.heap.size A (zc xs)) (r : Bool) (hr : r = true ↔ Topo g xs) :
    Calls Try.prog 47 #[.slice A n c, .pointer (some ⟨Bg, 0, none⟩)] w fun e w' => e = .returned (.bool r) ∧ Below w.heap.size w w' := by
  obtain ⟨i0, hi, hz0, hz1, hz2⟩ := info_parts info_intD
  have hN1 : N ≤ 100 := by have := hok.nodes; omega
  have HBx : Hid (∀ V, Below w.heap.size w V → V.cell? ⟨Bg, 0, none⟩ = some (.slice Ag N cg)) := fun V hV => (cell_at ((hV.block Bg (Array.getElem?_eq_some_iff.1 hbox).1).trans hbox) 0).trans rfl
  have HRd : Hid (∀ V, Below w.heap.size w V → RdG V V.heap.size Ag R) := fun V hV => hR.on hV
  have HXd : Hid (∀ V, Below w.heap.size w V → RdV V V.heap.size A (zc xs)) := fun V hV => hX.on hV
  have HOk : Hid (GOk g ∧ g.length = N ∧ gs R = g.map ns ∧ R.length = N) := ⟨hok, hN, hg, (lw_len hg).trans hN⟩
  have HXl := Lib.hid hn
  have HRr := Lib.hid hr
  clear hg hok hN hbox hR hX hn hr
  have kb := HBx.out w (Below.refl _ _)
  by_cases hnN : n = N
  · subst hnN
    have t0 : ((n : Int) != (n : Int)) = false := by simp
    have hmz : zc (ns (List.replicate n 0)) = (madeCells (Value.int .i64 0).cells (n * 1)).toList := by
      rw [show (Value.int .i64 0).cells = #[Value.int .i64 0] from rfl, toList_madeCells_one, Nat.mul_one]; simp [zc, ns]
    have HMZ := Lib.hid hmz; clear hmz
    go_enter Try.func47, Try.ntmps47
    go_wp2_with (at_make; refine wpList_make_full _ rfl _ _ 32 rfl w.heap.size 3 i0 (.int .i64 0) 1 Try.underlying32 hi hz0 hz1 _ _ _ _ n rfl rfl rfl rfl (by rw [hz2]; omega) (by unfold maxLen; omega) (Nat.le_refl _) ?_; intro w3 hown1 hgrow1; rw [← HMZ.out] at hown1; have hlow : Below w.heap.size w w3 := (Below.refl _ w).grown hgrow1 (Nat.le_refl _) (fun j hj => nomatch hj); have HO : Hid (Ow w w3 w.heap.size (ns (List.replicate n 0))) := Ow.of_own hlow hown1; clear hown1 hgrow1 hlow)
    clear kb
    obtain ⟨B1, hB1⟩ : ∃ B1, w.heap.size = B1 := ⟨_, rfl⟩
    rw [hB1]
    rw [hB1] at HO
    clear hB1
    go_loopw [5] (fun u wr => ∃ (i : Nat) (q : List Nat), i ≤ n ∧ u = .int .i64 (i : Int) ∧ Ow w wr B1 (ns q) ∧ PfK n xs i q) (fun u _ => n - (intOf u).toNat)
    case atStart => exact ⟨0, _, Nat.zero_le _, rfl, HO.out, PfK.start n xs⟩
    case round =>
     as_aux_lemma =>
      obtain ⟨i, q, hi', rfl, hO, hP⟩ := hrel
      by_cases hlt : i < n
      · have hin : i < xs.length := by rw [HXl.out]; exact hlt
        have hXr := HXd.out wr hO.low
        have hHas : ∀ (z : Int) (b : Bool), ((b = true ∧ z ∈ xs.take i) ∨ (b = false ∧ z ∉ xs.take i)) → ∀ nq, Calls Try.prog 39 #[.slice A i c, .int .i64 z] (wr.drewN nq) fun e w' => e = .returned (.bool b) ∧ w' = wr.drewN nq := fun z b hb nq =>
          hasInt_any (xs.take i) i (by rw [List.length_take]; omega) (by omega) z b hb A c _ (by
            have h1 : RdV wr wr.heap.size A (zc (xs.take i)) := by
              have h2 : zc (xs.take i) = (zc xs).take i := by unfold zc; rw [List.map_take]
              rw [h2]
              rcases hXr with h3 | ⟨b, o, h3, h4, h5⟩
              · exact .inl (by rw [h3]; simp)
              · exact .inr ⟨b, o, h3, h4, fun k v hk => h5 k v (by rw [List.getElem?_take] at hk; split at hk; exact hk; cases hk)⟩
            exact h1)
        obtain ⟨b, off, rfl, hb, k0⟩ := hXr.at_ (zc_get xs i hin)
        have HNo : Hid (∀ z, xs[i]?.getD 0 = z → (z < 0 ∨ (n : Int) ≤ z ∨ z ∈ xs.take i) → r = false) := fun z hz hq => by
          cases r with
          | false => rfl
          | true =>
            obtain ⟨p1, p2, p3⟩ := (HRr.out.1 rfl).at_ hin
            rw [hz] at p1 p2 p3
            rw [HOk.out.2.1] at p2
            rcases hq with q | q | q
            · omega
            · omega
            · exact absurd q p3
        have HNx : Hid (∀ y : Nat, xs[i]?.getD 0 = (y : Int) → y < n → (y : Int) ∉ xs.take i → PfK n xs (i + 1) (q.set y i)) := fun y hy h1 h2 => hP.next hin hy h1 h2
        have hql : q.length = n := by obtain ⟨m, _, _, _, _, h, _⟩ := hP; exact h
        have t1 : (0 : Int) ≤ (i : Int) := by omega
        have t2 : (i : Int) < (n : Int) := by omega
        have t2b : (i : Int) ≤ (c : Int) := by omega
        have HOx := Lib.hid hO
        have HBf : Hid (Below w.heap.size w wr) := hO.low
        obtain ⟨z, hz⟩ : ∃ z, xs[i]?.getD 0 = z := ⟨_, rfl⟩
        rw [hz] at k0
        have HZ := Lib.hid hz
        clear hXr hP hO hz hb
        by_cases h1 : z < 0
        · have hrf := HNo.out z HZ.out (.inl h1)
          have t3 : decide (z < 0) = true := decide_eq_true h1
          have HRf := Lib.hid hrf
          clear hrf hHas h1
          go_wp2
          go_quiet (fail)
          go_wp2
          go_ret
          exact ⟨by rw [HRf.out]; rfl, below_drewN HBf.out _⟩
        · have t3 : decide (z < 0) = false := decide_eq_false h1
          by_cases h2 : (n : Int) ≤ z
          · have hrf := HNo.out z HZ.out (.inr (.inl h2))
            have t4 : decide ((n : Int) ≤ z) = true := decide_eq_true h2
            have HRf := Lib.hid hrf
            clear hrf hHas h1 h2
            go_wp2
            go_quiet (fail)
            go_wp2
            go_ret
            exact ⟨by rw [HRf.out]; rfl, below_drewN HBf.out _⟩
          · have t4 : decide ((n : Int) ≤ z) = false := decide_eq_false h2
            by_cases h3 : z ∈ xs.take i
            · have hrf := HNo.out z HZ.out (.inr (.inr h3))
              have HRf := Lib.hid hrf
              have HC := Lib.hid (hHas z true (.inl ⟨rfl, h3⟩))
              clear hrf hHas h1 h2 h3
              go_wp2
              go_quiet ((go_at_call 39; exact Calls.quiet_of_same (HC.out _)))
              go_wp2
              go_ret
              exact ⟨by rw [HRf.out]; rfl, below_drewN HBf.out _⟩
            · have HC := Lib.hid (hHas z false (.inr ⟨rfl, h3⟩))
              obtain ⟨y, rfl⟩ := Int.eq_ofNat_of_zero_le (by omega : 0 ≤ z)
              have hy : y < n := by omega
              have t4n : decide (n ≤ y) = false := by simp; omega
              have HPn := Lib.hid (HNx.out y HZ.out hy h3)
              have t5 : (0 : Int) ≤ (y : Int) := by omega
              have t6 : (y : Int) < (n : Int) := by omega
              clear hHas h1 h2 h3
              go_wp2
              go_quiet ((go_at_call 39; exact Calls.quiet_of_same (HC.out _)))
              have hO2 : Ow w (wr.drewN nq) B1 (ns q) := ⟨below_drewN HOx.out.low nq, HOx.out.ge, HOx.out.row⟩
              have k02 : (wr.drewN nq).cell? ⟨b, off + i, none⟩ = some (.int .i64 (y : Int)) := k0
              generalize wr.drewN nq = wr1 at *
              obtain ⟨kc, kf⟩ := hO2.cell y (by rw [ns_length, hql]; exact hy)
              have HON : Hid (Ow w (wr1.setCell ⟨B1, y, none⟩ (.int .i64 (i : Int))) B1 (ns (q.set y i))) := ns_set q y i ▸ hO2.set y (i : Int)
              clear hO2 k0
              go_wp2
              go_roundw
              case rel => exact ⟨i + 1, _, by omega, by go_num, HON.out, HPn.out⟩
              case measure => simp [intOf]; omega
      · obtain rfl : i = n := by omega
        obtain ⟨l, hl⟩ := hP.fin HXl.out
        have HPl := Lib.hid hl
        have HOx := Lib.hid hO
        clear hP hl hO
        go_wp2
        go_loopw [6] (fun u wq => ∃ y : Nat, y ≤ i ∧ u = .int .i64 (y : Int) ∧ Ow w wq B1 (ns q) ∧ ∀ y', y' < y → ∀ x ∈ row g y', qa q y' < qa q x) (fun u _ => i - (intOf u).toNat)
        case atStart => exact ⟨0, Nat.zero_le _, rfl, HOx.out, fun y' hy' => absurd hy' (Nat.not_lt_zero _)⟩
        case round =>
         as_aux_lemma =>
          obtain ⟨y, hy, rfl, hO, hA⟩ := hrel
          have kb := HBx.out wr hO.low
          by_cases hlt2 : y < i
          · have HA := Lib.hid hA
            have HOy := Lib.hid hO
            have t1 : (y : Int) < (i : Int) := by omega
            clear hA hO
            generalize wr = V0 at *
            go_wp2
            go_loopw [7] (fun u wq => ∃ k : Nat, k ≤ (row g y).length ∧ u = .int .i64 (k : Int) ∧ Ow w wq B1 (ns q) ∧ ∀ x ∈ (row g y).take k, qa q y < qa q x) (fun u _ => (row g y).length - (intOf u).toNat)
            case atStart => exact ⟨0, Nat.zero_le _, rfl, HOy.out, by simp⟩
            case round =>
             as_aux_lemma =>
              clear kb
              obtain ⟨k, hk, rfl, hO, hAk⟩ := hrel
              have kb := HBx.out wr hO.low
              have hyR : y < R.length := by rw [HOk.out.2.2.2]; exact hlt2
              have hyg : y < g.length := by rw [HOk.out.2.1]; exact hlt2
              have hRr := HRd.out wr hO.low
              obtain ⟨b2, off2, rfl, hb2, k1⟩ := hRr.1.at_ (rcl_get R y hyR)
              have hrd := hRr.2 _ (rw_mem R y hyR)
              have hro := row_ofD R g HOk.out.2.2.1 y hyg
              generalize R[y]?.getD (none, 0, []) = x at *
              obtain ⟨A3, c3, xs3⟩ := x
              unfold sl at k1
              simp only at k1 hrd hro
              subst hro
              obtain ⟨hrd, hm47⟩ := hrd
              rw [ns_length] at k1 hm47
              have t3 : (0 : Int) ≤ (y : Int) := by omega
              have t4 : (y : Int) < (i : Int) := by omega
              obtain ⟨m, hm⟩ : ∃ m, (row g y).length = m := ⟨_, rfl⟩
              by_cases hkm : k < m
              · have hkl : k < (row g y).length := by omega
                obtain ⟨b3, off3, rfl, hb3, k3⟩ := hrd.at_ (zc_getN (row g y) k (qa (row g y) k) (qa_eq hkl))
                have hxm : qa (row g y) k ∈ row g y := qa_mem hkl
                have htk := take_succ_qa hkl
                obtain ⟨z, hz⟩ : ∃ z, qa (row g y) k = z := ⟨_, rfl⟩
                rw [hz] at k3 hxm htk
                have hzN : z < i := by rw [← HOk.out.2.1]; exact HOk.out.1.bdd y z hxm
                obtain ⟨q1, -⟩ := hO.cell y (by rw [ns_length, HPl.out.ql]; exact hlt2)
                obtain ⟨q2, -⟩ := hO.cell z (by rw [ns_length, HPl.out.ql]; exact hzN)
                rw [fv_ns q y (by rw [HPl.out.ql]; exact hlt2)] at q1
                rw [fv_ns q z (by rw [HPl.out.ql]; exact hzN)] at q2
                have HNo : Hid (qa q z ≤ qa q y → r = false) := fun hle => by
                  cases r with
                  | false => rfl
                  | true => exact absurd (HRr.out.1 rfl) (HPl.out.no HOk.out.2.1 hxm hzN hlt2 hle)
                have HYs : Hid (¬ qa q z ≤ qa q y → ∀ x ∈ (row g y).take (k + 1), qa q y < qa q x) := fun hle x hx => by
                  rw [htk] at hx
                  rcases List.mem_append.1 hx with h | h
                  · exact hAk x h
                  · simp only [List.mem_singleton] at h; subst h; omega
                have HOw := Lib.hid hO
                have HMl := Lib.hid hm
                rw [hm] at k1 hm47
                have t5 : (0 : Int) ≤ (k : Int) := by omega
                have t6 : (k : Int) < (m : Int) := by omega
                have t7 : (0 : Int) ≤ (z : Int) := by omega
                have t8 : (z : Int) < (i : Int) := by omega
                clear hRr hrd hxm htk hz hAk hO hm hb2 hb3 hk hkl
                generalize qa q z = u at *
                generalize qa q y = v at *
                by_cases hle : u ≤ v
                · have HRf := Lib.hid (HNo.out hle)
                  have t9 : decide ((u : Int) ≤ (v : Int)) = true := by simp; omega
                  have t9n : decide (u ≤ v) = true := decide_eq_true hle
                  clear hle
                  go_wp2
                  go_quiet (fail)
                  go_wp2
                  go_ret
                  exact ⟨by rw [HRf.out]; rfl, below_drewN HOw.out.low _⟩
                · have HYn := Lib.hid (HYs.out hle)
                  have t9 : decide ((u : Int) ≤ (v : Int)) = false := by simp; omega
                  have t9n : decide (u ≤ v) = false := decide_eq_false hle
                  clear hle
                  go_wp2
                  go_quiet (fail)
                  go_wp2
                  go_roundw
                  case rel => exact ⟨k + 1, by rw [HMl.out]; omega, by go_num, ⟨below_drewN HOw.out.low nq, HOw.out.ge, HOw.out.row⟩, HYn.out⟩
                  case measure => rw [HMl.out]; simp [intOf]; omega
              · have hkk : k = (row g y).length := by omega
                have HYn : Hid (∀ y', y' < y + 1 → ∀ x ∈ row g y', qa q y' < qa q x) := fun y' hy' x hx => by
                  by_cases e : y' = y
                  · subst e
                    exact hAk x (by rw [hkk, List.take_length]; exact hx)
                  · exact HA.out y' (by omega) x hx
                have HOw := Lib.hid hO
                have hkm2 : k = m := by omega
                rw [hm] at k1 hm47
                subst hkm2
                clear hRr hrd hAk hO hm hb2 hk hkk hkm
                have t5 : decide ((k : Int) < (k : Int)) = false := by simp
                go_wp2
                go_roundw
                case rel => exact ⟨y + 1, by omega, by go_num, HOw.out, HYn.out⟩
                case measure => simp [intOf]; omega
          · obtain rfl : y = i := by omega
            have hrt : r = true := HRr.out.2 (HPl.out.yes HOk.out.2.1 hA)
            have HRt := Lib.hid hrt
            have HBf : Hid (Below w.heap.size w wr) := hO.low
            clear hA hO hrt
            go_wp2
            go_ret
            exact ⟨by rw [HRt.out]; rfl, HBf.out⟩
  · have t0 : ((n : Int) != (N : Int)) = true := by simp; omega
    have hrf : r = false := by
      cases r with
      | false => rfl
      | true =>
        obtain ⟨l, h1, h2, _⟩ := HRr.out.1 rfl
        have h3 := HXl.out
        rw [h1, ns_length, h2, HOk.out.2.1] at h3
        exact absurd h3.symm hnN
    have HRf := Lib.hid hrf
    clear hrf hnN
    go_enter Try.func47, Try.ntmps47
    go_wp2
    go_ret
    exact ⟨by rw [HRf.out]; rfl, Below.refl _ _⟩
end

section
set_option maxRecDepth 100000
set_option linter.unusedVariables false
open Go.RowKit Go.Shelf

/-- Some node so far is not its own part, or leads to itself. -/
def lpB (g : List (List Nat)) (p : List Nat) (i : Nat) : Bool := (List.range i).any fun x => decide (qa p x ≠ x) || decide (x ∈ row g x)
theorem lpB_succ (g : List (List Nat)) (p : List Nat) (i : Nat) : lpB g p (i + 1) = (lpB g p i || (decide (qa p i ≠ i) || decide (i ∈ row g i))) := by
  unfold lpB; rw [List.range_succ, List.any_append]; simp
theorem lpB_acy {g : List (List Nat)} {p : List Nat} {N : Nat} (h : Sp g p) (hok : GOk g) (hN : g.length = N) : lpB g p N = false ↔ Acy g := by
  rw [h.acy hok.bdd]
  unfold lpB
  rw [List.any_eq_false]
  constructor
  · intro q i hi
    have := q i (by rw [List.mem_range, ← hN]; exact hi)
    simpa using this
  · intro q i hi
    rw [List.mem_range, ← hN] at hi
    simpa using q i hi
theorem run_topo {g : List (List Nat)} {o : List Nat} (h : Run g o) (hl : o.length = g.length) : Topo g (ns o) :=
  ⟨o, rfl, hl, h.nodup, h.bd, fun k hk y hy => (h k hk).1.2.2 y hy⟩
theorem run_lex {g : List (List Nat)} {o l : List Nat} (h : Run g o) (hl : o.length = g.length) (k1 : l.length = g.length) (k2 : l.Nodup) (k3 : ∀ x ∈ l, x < g.length) (k4 : ∀ k, k < l.length → ∀ y, qa l k ∈ row g y → y ∈ l.take k) {i : Nat} (hi : i < g.length) (hs : ∀ k, k < i → qa o k = qa l k) : qa o i ≤ qa l i := by
  have e : o.take i = l.take i := by
    apply List.ext_getElem (by rw [List.length_take, List.length_take]; omega)
    intro k a b
    rw [List.length_take] at a
    rw [List.getElem_take, List.getElem_take, qa_get (by omega), qa_get (by omega)]
    exact hs k (by omega)
  refine (h i (by omega)).2 _ ⟨k3 _ (qa_mem (by omega)), fun q => ?_, fun y hy => ?_⟩
  · rw [e] at q
    obtain ⟨j, j1, j2, j3⟩ := mem_take_qa q
    have := nodup_qa k2 j2 (by omega) j3
    omega
  · rw [e]; exact k4 i (by omega) y hy
set_option maxHeartbeats 8000000 in
theorem strongOrder_law (A : Option Addr) (c : Nat) (R : List Rw) (Ao : Option Addr) (co : Nat) (xo : List Int) (w : World) (hA : RdG w w.heap.size A R) (hn : R.length ≤ 140737488355328)
    (hcp : xo.length ≤ co) (hnl : Ao = none → co = 0) (hby : ∀ x ∈ xo, -9223372036854775808 ≤ x ∧ x ≤ 9223372036854775807) (hO : RdV w w.heap.size Ao (zc xo)) (hsz : xo.length ≤ 9223372036854775807) :
    Calls Try.prog 9 #[.agg #[.slice A R.length c], .slice Ao xo.length co] w fun e w' => e = .returned (.bool true) ∧ Below w.heap.size w w' := by
  clear hnl hby
  obtain ⟨m, hm⟩ : ∃ m, xo.length = m := ⟨_, rfl⟩
  rw [hm] at hcp hsz ⊢
  obtain ⟨N, hN⟩ : ∃ N, R.length = N := ⟨_, rfl⟩
  rw [hN] at hn ⊢
  by_cases e0 : grE (gs R) = 0
  · obtain ⟨g, hg, hok⟩ := grE_zero _ e0
    have hgl : g.length = N := by have := congrArg List.length hg; rw [gs_length, List.length_map] at this; omega
    have hN1 : N ≤ 100 := by have := hok.nodes; omega
    have HOk : Hid (GOk g ∧ g.length = N) := ⟨hok, hgl⟩
    have HG0 := Lib.hid hg
    have HO := Lib.hid (lw_order2 R g hg hok N hgl)
    have HP := Lib.hid (lw_parts R g hg hok N hgl)
    have HOn := Lib.hid (on_any R g hg hok N hgl A c w.heap.size)
    have HLd : Hid (∀ i, i < N → ∀ V, RdG V V.heap.size A R → Calls Try.prog 38 #[.agg #[.slice A N c], .int .i64 (i : Int), .int .i64 (i : Int)] V fun e w' => e = .returned (.bool (decide (i ∈ row g i))) ∧ Below V.heap.size V w') := fun i hi V hV => by
      have := leads_any R N hN A c i hi (i : Int) V hV
      rw [row_ofD R g hg i (by rw [hgl]; exact hi)] at this
      rwa [show decide ((i : Int) ∈ ns (row g i)) = decide (i ∈ row g i) from decide_eq_decide.2 (ns_mem _ _)] at this
    have HMm := Lib.hid hm
    clear e0 hN hn hg hok hgl hm
    have HB : Hid (Below w.heap.size w w) := Below.refl _ w
    have HR := Lib.hid hA; clear hA
    go_enter Try.func9, Try.ntmps9
    have HBq : Hid (Below w.heap.size w (w.alloc (.cells #[.slice A N c] 24))) := one_below _ _
    replace HB : Hid (Below w.heap.size w (w.alloc (.cells #[.slice A N c] 24))) := HB.out.trans (HBq.out.mono HB.out.size)
    replace HR : Hid (RdG (w.alloc (.cells #[.slice A N c] 24)) ((w.alloc (.cells #[.slice A N c] 24))).heap.size A R) := HR.out.on HBq.out
    clear HBq
    have K0 : Hid (((w.alloc (.cells #[.slice A N c] 24))).cell? ⟨w.heap.size, 0, none⟩ = some (.slice A N c)) := (cell_at (World.alloc_heap_new w _) 0).trans rfl
    have KB : Hid (((w.alloc (.cells #[.slice A N c] 24))).heap[w.heap.size]? = some (.cells #[.slice A N c] 24 (0, 0))) := World.alloc_heap_new w _
    have HX : Hid (RdV (w.alloc (.cells #[.slice A N c] 24)) ((w.alloc (.cells #[.slice A N c] 24))).heap.size Ao (zc xo)) := hO.on (one_below w _)
    clear hO
    have HC := Lib.hid (HO.out A c _ HR.out)
    have k_K0 := K0.out
    go_wp2_with fail
    clear k_K0
    refine HC.out.mono ?_
    rintro e w1 ⟨A1, n1, c1, o, e1, rfl, hl1, hc1, ho1, q1, bq⟩
    clear HC
    have HBc := Lib.hid bq; clear bq
    have HBq : Hid (Below (w.alloc (.cells #[.slice A N c] 24)).heap.size (w.alloc (.cells #[.slice A N c] 24)) w1) := HBc.out
    replace HB : Hid (Below w.heap.size w w1) := HB.out.trans (HBq.out.mono HB.out.size)
    replace HR : Hid (RdG w1 (w1).heap.size A R) := HR.out.on HBq.out
    replace K0 : Hid ((w1).cell? ⟨w.heap.size, 0, none⟩ = some (.slice A N c)) := (HBq.out.cell (World.block_lt_of_cell? _ _ K0.out)).trans K0.out
    replace KB : Hid ((w1).heap[w.heap.size]? = some (.cells #[.slice A N c] 24 (0, 0))) := (HBq.out.block _ (Array.getElem?_eq_some_iff.1 KB.out).1).trans KB.out
    replace HX : Hid (RdV w1 (w1).heap.size Ao (zc xo)) := HX.out.on HBq.out
    clear HBq
    clear HBc
    have HO1 := Lib.hid (⟨hl1, hc1, ho1⟩ : _ ∧ _ ∧ _); clear hl1 hc1 ho1
    have Q1 : Hid (RdV w1 (w1).heap.size A1 (zc (ns o))) := q1
    clear q1
    have HC := Lib.hid (HP.out A c _ HR.out)
    have k_K0 := K0.out
    go_wp2_with fail
    clear k_K0
    refine HC.out.mono ?_
    rintro e w2 ⟨b2, p, rfl, hp, q2, bq⟩
    clear HC
    have HBc := Lib.hid bq; clear bq
    have HBq : Hid (Below w1.heap.size w1 w2) := HBc.out
    replace HB : Hid (Below w.heap.size w w2) := HB.out.trans (HBq.out.mono HB.out.size)
    replace HR : Hid (RdG w2 (w2).heap.size A R) := HR.out.on HBq.out
    replace K0 : Hid ((w2).cell? ⟨w.heap.size, 0, none⟩ = some (.slice A N c)) := (HBq.out.cell (World.block_lt_of_cell? _ _ K0.out)).trans K0.out
    replace KB : Hid ((w2).heap[w.heap.size]? = some (.cells #[.slice A N c] 24 (0, 0))) := (HBq.out.block _ (Array.getElem?_eq_some_iff.1 KB.out).1).trans KB.out
    replace HX : Hid (RdV w2 (w2).heap.size Ao (zc xo)) := HX.out.on HBq.out
    replace Q1 : Hid (RdV w2 (w2).heap.size A1 (zc (ns o))) := Q1.out.on HBq.out
    clear HBq
    clear HBc
    have HPp := Lib.hid hp; clear hp
    have HPl : Hid (p.length = N) := HPp.out.len.trans HOk.out.2
    have Q2 : Hid (RdV w2 (w2).heap.size (some ⟨b2, 0, none⟩) (zc (ns p))) := q2
    clear q2
    have HC := Lib.hid (strongbegun_true w2)
    go_wp2_with fail
    refine HC.out.mono ?_
    rintro e w3 ⟨rfl, bq⟩
    clear HC
    have HBc := Lib.hid bq; clear bq
    have HBq : Hid (Below w2.heap.size w2 w3) := HBc.out
    replace HB : Hid (Below w.heap.size w w3) := HB.out.trans (HBq.out.mono HB.out.size)
    replace HR : Hid (RdG w3 (w3).heap.size A R) := HR.out.on HBq.out
    replace K0 : Hid ((w3).cell? ⟨w.heap.size, 0, none⟩ = some (.slice A N c)) := (HBq.out.cell (World.block_lt_of_cell? _ _ K0.out)).trans K0.out
    replace KB : Hid ((w3).heap[w.heap.size]? = some (.cells #[.slice A N c] 24 (0, 0))) := (HBq.out.block _ (Array.getElem?_eq_some_iff.1 KB.out).1).trans KB.out
    replace HX : Hid (RdV w3 (w3).heap.size Ao (zc xo)) := HX.out.on HBq.out
    replace Q1 : Hid (RdV w3 (w3).heap.size A1 (zc (ns o))) := Q1.out.on HBq.out
    replace Q2 : Hid (RdV w3 (w3).heap.size (some ⟨b2, 0, none⟩) (zc (ns p))) := Q2.out.on HBq.out
    clear HBq
    clear HBc
    go_wp2
    go_loopw [9, 10] (fun a b wr => ∃ i : Nat, i ≤ N ∧ b = .int .i64 (i : Int) ∧ a = .bool (lpB g p i) ∧ Below w3.heap.size w3 wr) (fun _ b _ => N - (intOf b).toNat)
    case atStart => exact ⟨0, Nat.zero_le _, rfl, rfl, Below.refl _ _⟩
    case round =>
      obtain ⟨i, hi, rfl, rfl, hb⟩ := hrel
      by_cases hlt : i < N
      · have k0 := (hb.cell (World.block_lt_of_cell? _ _ K0.out)).trans K0.out
        have k1 := rdv_at (Q2.out.on hb) (N := N) i (by rw [ns_length, HPl.out]; exact hlt)
        rw [fv_ns p i (by rw [HPl.out]; exact hlt)] at k1
        have HLi := Lib.hid (HLd.out i hlt wr (HR.out.on hb))
        have HSu := Lib.hid (lpB_succ g p i)
        have HBw := Lib.hid hb; clear hb
        have t1 : (0 : Int) ≤ (i : Int) := by omega
        have t2 : (i : Int) < (N : Int) := by omega
        generalize lpB g p i = z at *
        cases z with
        | true =>
          have HS2 : Hid (lpB g p (i + 1) = true) := by show _ = _; rw [HSu.out]; rfl
          go_wp2
          go_roundw
          case rel => exact ⟨i + 1, by omega, by go_num, by rw [HS2.out], HBw.out⟩
          case measure => simp [intOf]; omega
        | false =>
          by_cases hpi : qa p i = i
          · have HS2 : Hid (lpB g p (i + 1) = decide (i ∈ row g i)) := by show _ = _; rw [HSu.out]; simp [hpi]
            rw [hpi] at k1
            have t3 : ((i : Int) != (i : Int)) = false := by simp
            clear hpi
            generalize decide (i ∈ row g i) = y at *
            go_wp2_with fail
            refine HLi.out.mono ?_
            rintro e w4 ⟨rfl, b4⟩
            have HB4 : Hid (Below w3.heap.size w3 w4) := HBw.out.trans (b4.mono HBw.out.size)
            clear b4
            go_wp2
            go_roundw
            case rel => exact ⟨i + 1, by omega, by go_num, by rw [HS2.out], HB4.out⟩
            case measure => simp [intOf]; omega
          · have HS2 : Hid (lpB g p (i + 1) = true) := by show _ = _; rw [HSu.out]; simp [hpi]
            generalize qa p i = u at *
            have t3 : ((u : Int) != (i : Int)) = true := by simp; omega
            clear hpi
            go_wp2
            go_roundw
            case rel => exact ⟨i + 1, by omega, by go_num, by rw [HS2.out], HBw.out⟩
            case measure => simp [intOf]; omega
      · obtain rfl : N = i := by omega
        clear HO HP HLd
        have HBq : Hid (Below w3.heap.size w3 wr) := hb
        replace HB : Hid (Below w.heap.size w wr) := HB.out.trans (HBq.out.mono HB.out.size)
        replace HR : Hid (RdG wr (wr).heap.size A R) := HR.out.on HBq.out
        replace K0 : Hid ((wr).cell? ⟨w.heap.size, 0, none⟩ = some (.slice A N c)) := (HBq.out.cell (World.block_lt_of_cell? _ _ K0.out)).trans K0.out
        replace KB : Hid ((wr).heap[w.heap.size]? = some (.cells #[.slice A N c] 24 (0, 0))) := (HBq.out.block _ (Array.getElem?_eq_some_iff.1 KB.out).1).trans KB.out
        replace HX : Hid (RdV wr (wr).heap.size Ao (zc xo)) := HX.out.on HBq.out
        replace Q1 : Hid (RdV wr (wr).heap.size A1 (zc (ns o))) := Q1.out.on HBq.out
        replace Q2 : Hid (RdV wr (wr).heap.size (some ⟨b2, 0, none⟩) (zc (ns p))) := Q2.out.on HBq.out
        clear HBq
        clear hb
        have k0 := K0.out
        have hac := lpB_acy HPp.out HOk.out.1 HOk.out.2
        rcases HO1.out.2.2 with ⟨rfl, hRu, hlo⟩ | ⟨rfl, rfl, hna⟩
        · have hlf : lpB g p N = false := hac.2 (hRu.acy HOk.out.1.bdd hlo)
          rw [hlf]
          obtain rfl : N = n1 := by rw [← HO1.out.1, hlo]; exact HOk.out.2.symm
          have HRu := Lib.hid (⟨hRu, hlo⟩ : _ ∧ _)
          clear hac hlf hRu hlo
          have HC := Lib.hid (HOn.out (ns o) N ((ns_length o).trans HO1.out.1) (by omega) A1 c1 HO1.out.2.1 wr KB.out HR.out Q1.out true ⟨fun _ => run_topo HRu.out.1 HRu.out.2, fun _ => rfl⟩)
          go_wp2_with fail
          refine HC.out.mono ?_
          rintro e w5 ⟨rfl, bq⟩
          clear HC
          have HBc := Lib.hid bq; clear bq k0
          have HBq : Hid (Below wr.heap.size wr w5) := HBc.out
          replace HB : Hid (Below w.heap.size w w5) := HB.out.trans (HBq.out.mono HB.out.size)
          replace HR : Hid (RdG w5 (w5).heap.size A R) := HR.out.on HBq.out
          replace K0 : Hid ((w5).cell? ⟨w.heap.size, 0, none⟩ = some (.slice A N c)) := (HBq.out.cell (World.block_lt_of_cell? _ _ K0.out)).trans K0.out
          replace KB : Hid ((w5).heap[w.heap.size]? = some (.cells #[.slice A N c] 24 (0, 0))) := (HBq.out.block _ (Array.getElem?_eq_some_iff.1 KB.out).1).trans KB.out
          replace HX : Hid (RdV w5 (w5).heap.size Ao (zc xo)) := HX.out.on HBq.out
          replace Q1 : Hid (RdV w5 (w5).heap.size A1 (zc (ns o))) := Q1.out.on HBq.out
          replace Q2 : Hid (RdV w5 (w5).heap.size (some ⟨b2, 0, none⟩) (zc (ns p))) := Q2.out.on HBq.out
          clear HBq
          clear HBc
          by_cases hT : Topo g xo
          · have HC := Lib.hid (HOn.out xo m HMm.out hsz Ao co hcp w5 KB.out HR.out HX.out true ⟨fun _ => hT, fun _ => rfl⟩)
            have HTo := Lib.hid hT
            clear hT
            go_wp2_with fail
            refine HC.out.mono ?_
            rintro e w6 ⟨rfl, bq⟩
            clear HC
            have HBc := Lib.hid bq; clear bq
            have HBq : Hid (Below w5.heap.size w5 w6) := HBc.out
            replace HB : Hid (Below w.heap.size w w6) := HB.out.trans (HBq.out.mono HB.out.size)
            replace HR : Hid (RdG w6 (w6).heap.size A R) := HR.out.on HBq.out
            replace K0 : Hid ((w6).cell? ⟨w.heap.size, 0, none⟩ = some (.slice A N c)) := (HBq.out.cell (World.block_lt_of_cell? _ _ K0.out)).trans K0.out
            replace KB : Hid ((w6).heap[w.heap.size]? = some (.cells #[.slice A N c] 24 (0, 0))) := (HBq.out.block _ (Array.getElem?_eq_some_iff.1 KB.out).1).trans KB.out
            replace HX : Hid (RdV w6 (w6).heap.size Ao (zc xo)) := HX.out.on HBq.out
            replace Q1 : Hid (RdV w6 (w6).heap.size A1 (zc (ns o))) := Q1.out.on HBq.out
            replace Q2 : Hid (RdV w6 (w6).heap.size (some ⟨b2, 0, none⟩) (zc (ns p))) := Q2.out.on HBq.out
            clear HBq
            clear HBc HOn
            obtain ⟨l, hxl, k1, k2, k3, k4⟩ := HTo.out
            have HLx : Hid (∀ i, i < g.length → (∀ k, k < i → qa o k = qa l k) → qa o i ≤ qa l i) := fun i hi hs => run_lex HRu.out.1 HRu.out.2 k1 k2 k3 k4 hi hs
            have HLl : Hid (l.length = N ∧ o.length = N) := ⟨k1.trans HOk.out.2, HO1.out.1⟩
            obtain rfl : N = m := by rw [← HMm.out, hxl, ns_length]; exact HLl.out.1.symm
            have HXr : Hid (RdV w6 w6.heap.size Ao (zc (ns l))) := by rw [← hxl]; exact HX.out
            clear k1 k2 k3 k4 hxl HTo HMm
            go_wp2
            go_loopw [12] (fun b wq => ∃ i : Nat, i ≤ N ∧ b = .int .i64 (i : Int) ∧ (∀ k, k < i → qa o k = qa l k) ∧ Below w6.heap.size w6 wq) (fun b _ => N - (intOf b).toNat)
            case atStart => exact ⟨0, Nat.zero_le _, rfl, fun k hk => absurd hk (Nat.not_lt_zero _), Below.refl _ _⟩
            case round =>
             as_aux_lemma =>
              obtain ⟨i, hi, rfl, hs, hb⟩ := hrel
              by_cases hlt : i < N
              · have hio : i < o.length := by rw [HLl.out.2]; exact hlt
                have hil : i < l.length := by rw [HLl.out.1]; exact hlt
                obtain ⟨b1, o1, eA1, hb1, k1⟩ := (Q1.out.on hb).at_ (zc_getN o i (qa o i) (qa_eq hio))
                subst eA1
                obtain ⟨b3, o3, eA3, hb3, k3⟩ := (HXr.out.on hb).at_ (zc_getN l i (qa l i) (qa_eq hil))
                subst eA3
                have hle := HLx.out i (by rw [HOk.out.2]; exact hlt) hs
                have HBw : Hid (Below w.heap.size w wr) := HB.out.trans (hb.mono HB.out.size)
                have HSs : Hid (qa o i = qa l i → ∀ k, k < i + 1 → qa o k = qa l k) := fun e k hk => by
                  by_cases q : k = i
                  · subst q; exact e
                  · exact hs k (by omega)
                have HBl := Lib.hid hb
                have t1 : (0 : Int) ≤ (i : Int) := by omega
                have t2 : (i : Int) < (N : Int) := by omega
                have HRc : Hid (∀ nq, (wr.drewN nq).cell? ⟨b1, o1 + i, none⟩ = some (.int .i64 ((qa o i : Nat) : Int)) ∧ (wr.drewN nq).cell? ⟨b3, o3 + i, none⟩ = some (.int .i64 ((qa l i : Nat) : Int))) := fun nq => ⟨k1, k3⟩
                clear hs hb hio hil hb1 hb3
                generalize qa o i = u at *
                generalize qa l i = v at *
                by_cases e : u = v
                · have HS2 := Lib.hid (HSs.out e)
                  have t3 : ((u : Int) != (v : Int)) = false := by simp; omega
                  clear e hle
                  go_wp2
                  go_quiet (fail)
                  go_wp2
                  go_roundw
                  case rel => exact ⟨i + 1, by omega, by go_num, HS2.out, below_drewN HBl.out _⟩
                  case measure => simp [intOf]; omega
                · have t3 : ((u : Int) != (v : Int)) = true := by simp; omega
                  have t4 : decide ((u : Int) < (v : Int)) = true := by simp; omega
                  have t4n : decide (u < v) = true := by simp; omega
                  clear e hle
                  go_wp2
                  go_quiet (fail)
                  obtain ⟨k5, k6⟩ := HRc.out nq
                  have HBn : Hid (Below w.heap.size w (wr.drewN nq)) := below_drewN HBw.out nq
                  generalize wr.drewN nq = wx at *
                  go_wp2
                  go_quiet (fail)
                  go_wp2
                  go_ret
                  exact ⟨rfl, below_drewN HBn.out _⟩
              · obtain rfl : i = N := by omega
                have HBw : Hid (Below w.heap.size w wr) := HB.out.trans (hb.mono HB.out.size)
                clear hs hb
                go_wp2
                go_ret
                exact ⟨rfl, HBw.out⟩
          · have HC := Lib.hid (HOn.out xo m HMm.out hsz Ao co hcp w5 KB.out HR.out HX.out false ⟨fun e => absurd e (by simp), fun e => absurd e hT⟩)
            clear hT
            go_wp2_with fail
            refine HC.out.mono ?_
            rintro e w6 ⟨rfl, bq⟩
            clear HC
            have HBc := Lib.hid bq; clear bq
            have HBq : Hid (Below w5.heap.size w5 w6) := HBc.out
            replace HB : Hid (Below w.heap.size w w6) := HB.out.trans (HBq.out.mono HB.out.size)
            replace HR : Hid (RdG w6 (w6).heap.size A R) := HR.out.on HBq.out
            replace K0 : Hid ((w6).cell? ⟨w.heap.size, 0, none⟩ = some (.slice A N c)) := (HBq.out.cell (World.block_lt_of_cell? _ _ K0.out)).trans K0.out
            replace KB : Hid ((w6).heap[w.heap.size]? = some (.cells #[.slice A N c] 24 (0, 0))) := (HBq.out.block _ (Array.getElem?_eq_some_iff.1 KB.out).1).trans KB.out
            replace HX : Hid (RdV w6 (w6).heap.size Ao (zc xo)) := HX.out.on HBq.out
            replace Q1 : Hid (RdV w6 (w6).heap.size A1 (zc (ns o))) := Q1.out.on HBq.out
            replace Q2 : Hid (RdV w6 (w6).heap.size (some ⟨b2, 0, none⟩) (zc (ns p))) := Q2.out.on HBq.out
            clear HBq
            clear HBc HOn
            go_wp2
            go_ret
            exact ⟨rfl, HB.out⟩
        · have hlt2 : lpB g p N = true := by cases e : lpB g p N with | true => rfl | false => exact absurd (hac.1 e) hna
          rw [hlt2]
          clear hac hna
          go_wp2
          go_ret
          exact ⟨rfl, HB.out⟩
  · have HO := Lib.hid (lw_order_e R N hN hn _ rfl e0)
    have HP := Lib.hid (lw_parts_e R N hN hn _ rfl e0)
    have t1 : (grE (gs R) == 0) = false := by simpa using e0
    have u1 : (grE (gs R) != 0) = true := by simpa using e0
    have u2 : (grE (gs R) == grE (gs R)) = true := by simp
    clear e0 hN hn hO
    generalize grE (gs R) = e1 at *
    have HB : Hid (Below w.heap.size w w) := Below.refl _ w
    have HR := Lib.hid hA; clear hA
    go_enter Try.func9, Try.ntmps9
    have HBq : Hid (Below w.heap.size w (w.alloc (.cells #[.slice A N c] 24))) := one_below _ _
    replace HB : Hid (Below w.heap.size w (w.alloc (.cells #[.slice A N c] 24))) := HB.out.trans (HBq.out.mono HB.out.size)
    replace HR : Hid (RdG (w.alloc (.cells #[.slice A N c] 24)) ((w.alloc (.cells #[.slice A N c] 24))).heap.size A R) := HR.out.on HBq.out
    clear HBq
    have K0 : Hid (((w.alloc (.cells #[.slice A N c] 24))).cell? ⟨w.heap.size, 0, none⟩ = some (.slice A N c)) := (cell_at (World.alloc_heap_new w _) 0).trans rfl
    have HC := Lib.hid (HO.out A c _ HR.out)
    have k_K0 := K0.out
    go_wp2_with fail
    clear k_K0
    refine HC.out.mono ?_
    rintro e w1 ⟨A1, c1, rfl, -, bq⟩
    clear HC
    have HBc := Lib.hid bq; clear bq
    have HBq : Hid (Below (w.alloc (.cells #[.slice A N c] 24)).heap.size (w.alloc (.cells #[.slice A N c] 24)) w1) := HBc.out
    replace HB : Hid (Below w.heap.size w w1) := HB.out.trans (HBq.out.mono HB.out.size)
    replace HR : Hid (RdG w1 (w1).heap.size A R) := HR.out.on HBq.out
    replace K0 : Hid ((w1).cell? ⟨w.heap.size, 0, none⟩ = some (.slice A N c)) := (HBq.out.cell (World.block_lt_of_cell? _ _ K0.out)).trans K0.out
    clear HBq
    clear HBc
    have HC := Lib.hid (HP.out A c _ HR.out)
    have k_K0 := K0.out
    go_wp2_with fail
    clear k_K0
    refine HC.out.mono ?_
    rintro e w2 ⟨rfl, bq⟩
    clear HC
    have HBc := Lib.hid bq; clear bq
    have HBq : Hid (Below w1.heap.size w1 w2) := HBc.out
    replace HB : Hid (Below w.heap.size w w2) := HB.out.trans (HBq.out.mono HB.out.size)
    replace HR : Hid (RdG w2 (w2).heap.size A R) := HR.out.on HBq.out
    replace K0 : Hid ((w2).cell? ⟨w.heap.size, 0, none⟩ = some (.slice A N c)) := (HBq.out.cell (World.block_lt_of_cell? _ _ K0.out)).trans K0.out
    clear HBq
    clear HBc
    have HC := Lib.hid (strongbegun_true w2)
    go_wp2_with fail
    refine HC.out.mono ?_
    rintro e w3 ⟨rfl, bq⟩
    clear HC
    have HBc := Lib.hid bq; clear bq
    have HBq : Hid (Below w2.heap.size w2 w3) := HBc.out
    replace HB : Hid (Below w.heap.size w w3) := HB.out.trans (HBq.out.mono HB.out.size)
    replace HR : Hid (RdG w3 (w3).heap.size A R) := HR.out.on HBq.out
    replace K0 : Hid ((w3).cell? ⟨w.heap.size, 0, none⟩ = some (.slice A N c)) := (HBq.out.cell (World.block_lt_of_cell? _ _ K0.out)).trans K0.out
    clear HBq
    clear HBc
    go_wp2
    go_ret
    exact ⟨rfl, HB.out⟩
end

section
section
open Go.ChangeShapes Go.WideShapes Go.ChangeAt Go.RowKit Go.Joins

theorem cells3i : Try.prog.cellsOf 3 = 1 := by kernel_rfl

set_option maxRecDepth 100000 in
/-- Numbers that were handed in. -/
theorem open_zs {H : Type} {enc : TypeId × Value → H} {W : World} {base : Nat} {v : Value} {d : DataW H} {p : List MemPlace}
    (hv : Value.okWide Try.prog W .any base 32 v) (h : DataW.Trod enc Try.prog W 0 (fun _ => true) true 32 v d p) :
    ∃ (A : Option Addr) (c : Nat) (xs : List Int), v = .slice A xs.length c ∧ xs.length ≤ c ∧ (A = none → c = 0) ∧ RdV W W.heap.size A (zc xs) ∧ (∀ x ∈ xs, -9223372036854775808 ≤ x ∧ x ≤ 9223372036854775807) ∧ xs.length ≤ 9223372036854775807 := by
  obtain ⟨a0, len0, cap0, rfl⟩ := okWide_slice Try.underlying32 hv
  obtain ⟨fuel, hf⟩ := h
  rcases open_ints Try.underlying32 Try.underlying3 cells3i hf with ⟨hcs, _⟩ | ⟨x, l, c, zs, hcs, _, hl, hm, hz, _, hcell, hwz⟩
  · simp [Value.cells] at hcs
    obtain ⟨rfl, rfl, rfl⟩ := hcs
    exact ⟨none, 0, [], rfl, by simp, fun _ => rfl, .inl rfl, by simp, by simp⟩
  · simp [Value.cells] at hcs
    obtain ⟨rfl, rfl, rfl⟩ := hcs
    have hzc : zs.length = cap0 := by simpa using hz
    have hlen : (zs.take len0).length = len0 := by rw [List.length_take]; omega
    unfold maxLen at hm
    refine ⟨some x, cap0, zs.take len0, by rw [hlen], by rw [hlen]; exact hl, (fun h => by cases h), ?_, ?_, by rw [hlen]; omega⟩
    · rcases Nat.eq_zero_or_pos len0 with h0 | h0
      · left; rw [h0]; rfl
      · obtain ⟨b, off, rfl, hc⟩ := ints_at hcell (by omega)
        refine .inr ⟨b, off, rfl, lt_of_cell (hc 0 (by omega)), fun i v hi => ?_⟩
        have hil : i < len0 := by
          rcases Nat.lt_or_ge i len0 with h | h
          · exact h
          · rw [List.getElem?_eq_none (by rw [zc_length, hlen]; exact h)] at hi; cases hi
        rw [zc_get _ i (by rw [hlen]; exact hil)] at hi
        cases hi
        rw [hc i (by omega)]
        have hz0 : zs.getD i 0 = zs[i]'(by omega) := by rw [List.getD_eq_getElem?_getD, List.getElem?_eq_getElem (by omega)]; rfl
        have e1 : (zs.take len0)[i]?.getD 0 = zs[i]'(by omega) := by
          rw [List.getElem?_take_of_lt hil, List.getElem?_eq_getElem (by omega)]; rfl
        rw [e1, hz0]
    · intro n hn
      exact bounds_i64 (hwz n (List.mem_of_mem_take hn))
end

section
open Go.ChangeShapes Go.WideShapes Go.ChangeAt Go.RowKit Go.Joins Go.Deep

theorem cellsG : Try.prog.cellsOf 24 = 1 := by kernel_rfl
theorem cellsL1 : Try.prog.cellsOf 32 = 1 := by kernel_rfl
theorem cellsL2 : Try.prog.cellsOf 22 = 1 := by kernel_rfl
theorem bytesL1 : Try.prog.bytesOf 32 = 24 := by kernel_rfl
theorem bytesI1 : Try.prog.bytesOf 3 = 8 := by kernel_rfl
theorem weightsAll_mem {H : Type} {P : Program} {e : TypeId} {n : Nat} : ∀ {l : List (DataW H)} {d : DataW H}, d ∈ l → n ∈ d.weights P e → n ∈ DataW.weightsAll P e l
  | x :: t, d, hd, hn => by
    simp only [DataW.weightsAll, List.mem_append]
    rcases List.mem_cons.1 hd with rfl | h
    · exact .inl hn
    · exact .inr (weightsAll_mem h hn)
theorem add_plG (b off k : Nat) : (⟨b, off, none⟩ : Addr).add k = ⟨b, off + k, none⟩ := by unfold Addr.add; split <;> simp_all
theorem zc_mem {l : List Int} {i : Nat} {v : Value} (h : (zc l)[i]? = some v) : ∃ hi : i < l.length, v = .int .i64 l[i] := by
  unfold zc at h
  rw [List.getElem?_map] at h
  obtain ⟨x, hx, rfl⟩ := Option.map_eq_some_iff.1 h
  obtain ⟨hi, rfl⟩ := List.getElem?_eq_some_iff.1 hx
  exact ⟨hi, rfl⟩
set_option maxRecDepth 100000 in
/-- A graph that was handed in. -/
theorem open_graph {H : Type} {enc : TypeId × Value → H} {W : World} {base : Nat} {v : Value} {d : DataW H} {p : List MemPlace}
    (hv : Value.okWide Try.prog W .any base 24 v) (h : DataW.Trod enc Try.prog W 0 (fun _ => true) true 24 v d p)
    (hz : ∀ n ∈ d.weights Try.prog 24, n ≤ reachBytes) :
    ∃ (A : Option Addr) (c : Nat) (R : List Rw), v = .agg #[.slice A R.length c] ∧ RdG W W.heap.size A R ∧ R.length ≤ 140737488355328 := by
  obtain ⟨cs, rfl, hsz⟩ := okWide_struct Try.underlying24 hv
  obtain ⟨c0, rfl⟩ := Array.size_eq_one_iff.1 (hsz.trans cellsG)
  obtain ⟨fuel, hf⟩ := h
  obtain ⟨y0, n, hx, _, h0⟩ := trod_struct1 Try.underlying24 hf
  simp only [Prod.mk.injEq] at hx
  obtain ⟨rfl, rfl⟩ := hx
  simp [Value.cells, cellsL2] at h0
  have hz0 : ∀ n ∈ y0.1.weights Try.prog 22, n ≤ reachBytes := fun n hn => hz n (by
    unfold DataW.weights
    rw [Try.underlying24]
    simp only [List.map_cons, List.map_nil, DataW.weightsEach, List.append_nil]
    exact hn)
  have hrb := reachBytes_lt
  rcases open_int_rows Try.underlying22 Try.underlying32 Try.underlying3 cellsL1 cells3i h0 with ⟨hcs, _⟩ | ⟨a, len, cap, A, L, C, Z, hcs, _, hl, hm, hx, hrow⟩
  · simp at hcs
    subst hcs
    exact ⟨none, 0, [], rfl, ⟨.inl rfl, fun r hr => by simp at hr⟩, by simp⟩
  · simp at hcs
    subst hcs
    rw [hx] at hz0
    have hlen : (len + (cap - len)) * 24 ≤ reachBytes := hz0 _ (by
      simp only [DataW.weights, Try.underlying22, List.length_map, List.length_range, bytesL1]
      exact List.mem_cons_self)
    have hrl : ∀ r, r < len → L r ≤ 140737488355328 := fun r hr => by
      obtain ⟨_, q1, q2, q3, _, q5, _⟩ := hrow r (by omega)
      cases hA : A r with
      | none => rw [q5 hA] at q1; omega
      | some a' =>
        have := hz0 (((Z r).take (L r)).length * 8 + ((Z r).drop (L r)).length * 8) (by
          simp only [DataW.weights, Try.underlying22, List.length_map, List.length_range, bytesL1]
          refine List.mem_cons_of_mem _ (List.mem_append.2 (.inl (weightsAll_mem (List.mem_map.2 ⟨r, List.mem_range.2 hr, rfl⟩) ?_)))
          unfold intRow
          rw [hA]
          simp only [DataW.weights, Try.underlying32, bytesI1, lits, List.length_map]
          refine List.mem_cons.2 (.inl ?_)
          omega)
        rw [List.length_take] at this
        omega
    refine ⟨some a, cap, (List.range len).map fun r => (A r, C r, (Z r).take (L r)), by simp, ⟨?_, ?_⟩, by simp; omega⟩
    · rcases Nat.eq_zero_or_pos len with h0 | h0
      · left; rw [h0]; rfl
      · obtain ⟨b, off, spot⟩ := a
        have hspot : spot = none := by simpa [Addr.add] using World.cell?_spot (hrow 0 (by omega)).1
        subst hspot
        refine .inr ⟨b, off, rfl, ?_, fun i v hi => ?_⟩
        · have := (hrow 0 (by omega)).1
          exact lt_of_cell (p := ⟨b, off + 0, none⟩) (by rw [← add_plG]; exact this)
        · unfold rcl at hi
          rw [List.getElem?_map, List.getElem?_map] at hi
          obtain ⟨y, hy, rfl⟩ := Option.map_eq_some_iff.1 hi
          obtain ⟨j, hj, rfl⟩ := Option.map_eq_some_iff.1 hy
          obtain ⟨hil, rfl⟩ := List.getElem?_eq_some_iff.1 hj
          rw [List.length_range] at hil
          have := hrow i (by omega)
          rw [add_plG] at this
          simp only [List.getElem_range]
          unfold sl
          simp only [List.length_take]
          rw [this.1]
          have e : min (L i) (Z i).length = L i := by have q1 := this.2.1; have q2 := this.2.2.2.1; omega
          rw [e]
    · intro r hr
      obtain ⟨i, hi, rfl⟩ := List.mem_map.1 hr
      have hil := List.mem_range.1 hi
      obtain ⟨q0, q1, q2, q3, q4, q5, q6⟩ := hrow i (by omega)
      refine ⟨?_, by simp only [List.length_take]; have := hrl i hil; omega⟩
      simp only
      rcases Nat.eq_zero_or_pos (L i) with h0 | h0
      · left; rw [h0]; rfl
      · cases hA : A i with
        | none => rw [q5 hA] at q1; omega
        | some a' =>
          obtain ⟨_, q7⟩ := q6 a' hA
          obtain ⟨b, off, spot⟩ := a'
          have hspot : spot = none := by simpa [Addr.add] using World.cell?_spot (q7 0 (by omega))
          subst hspot
          refine .inr ⟨b, off, rfl, ?_, fun j v hj => ?_⟩
          · have := q7 0 (by omega)
            exact lt_of_cell (p := ⟨b, off + 0, none⟩) (by rw [← add_plG]; exact this)
          · obtain ⟨hjl, rfl⟩ := zc_mem hj
            have hjl2 : j < L i := by rw [List.length_take] at hjl; omega
            have := q7 j (by omega)
            rw [add_plG] at this
            rw [this]
            simp [List.getD_eq_getElem?_getD, List.getElem?_eq_getElem (show j < (Z i).length by omega)]
end
end

section
open Go.ChangeShapes Go.WideShapes Go.ChangeAt Go.RowKit
open Go.ChangeMaps (open_string shut_string)

set_option linter.unusedVariables false
set_option maxRecDepth 100000 in
theorem strongOrder_lifted (os : Os) (started : os.Started) (H : Type) (enc : TypeId × Value → H) :
    ReturnsInHanded {} Try.checked os 9 .any (Rows.strongOrderSpec.pre6 enc Try.prog Try.f9 Rows.strongOrderRow.domain false) (Rows.strongOrderSpec.post enc Try.prog Try.f9 false true false false) := by
  refine returnsInHanded_of_change_sized (C := Try.checked) own started (by kernel_rfl) Try.func9
    (ChangeSpec.witness6 (enc := enc) (C := Try.checked) false ⟨#[], #[.agg #[.slice none 0 0], .slice none 0 0], []⟩ 8 (by kernel_rfl) (by kernel_rfl) (by kernel_rfl) (by kernel_rfl)) ?_
  intro W base args ds gs before hval0 hW hcnd hzz _
  have hval : ∀ (j : Nat) t v, Try.f9.params[j]? = some t → args[j]? = some v → Value.okWide Try.prog W .any base t v := hval0
  have hW' := hW
  obtain ⟨p, q, hA0, hV, rfl, hfz, hnd⟩ := hW
  have hA : DataW.TrodAll enc Try.prog W 0 (fun _ => true) true Try.f9.params.toList args.toList ds p := hA0
  rw [Try.params9] at hA hval hzz
  obtain ⟨v0, vs0, d0, ds0, p0, q0, hargs, rfl, rfl, h0, r0⟩ := trodAll_cons hA
  obtain ⟨v1, vs1, d1, ds1, p1, q1, rfl, rfl, rfl, h1, r1⟩ := trodAll_cons r0
  obtain ⟨rfl, rfl, rfl⟩ := trodAll_nil r1
  obtain rfl : args = #[v0, v1] := by cases args; simp_all
  obtain ⟨rfl, rfl⟩ := trodVars_none hV
  have k0 := h0
  have lt0 : ∀ x ∈ p0, x.block < W.heap.size := by obtain ⟨m, hm⟩ := k0; exact DataW.trod_lt m _ _ _ hm
  obtain ⟨A0, c0, R0, rfl, rd0, nn0⟩ := open_graph (hval 0 24 v0 rfl rfl) h0 (fun n hn => of_decide_eq_true (List.all_eq_true.1 hzz n (DataW.weights_mem_each (j := 0) (t := 24) (d := d0) rfl rfl n hn)))
  have k1 := h1
  have lt1 : ∀ x ∈ p1, x.block < W.heap.size := by obtain ⟨m, hm⟩ := k1; exact DataW.trod_lt m _ _ _ hm
  obtain ⟨A1, c1, xs1, rfl, cp1, nl1, rd1, by1, sz1⟩ := open_zs (hval 1 32 v1 rfl rfl) h1
  clear hA0 hval0
  refine (strongOrder_law A0 c0 R0 A1 c1 xs1 W rd0 nn0 cp1 nl1 by1 rd1 sz1).mono fun e W' ⟨he, bel⟩ => ?_
  subst he
  exact ⟨_, rfl, _, _, _, [], _, [], hW', trodAll_mk1 (shut_bool Try.underlying4 _), (trodAll_cons_mk (Below.trod laidOut (by kernel_rfl) (of_decide_eq_true (by kernel_rfl)) k0 bel lt0) (trodAll_cons_mk (Below.trod laidOut (by kernel_rfl) (of_decide_eq_true (by kernel_rfl)) k1 bel lt1) trodAll_mk0)), rfl, bel.frame _, fun h => by cases h⟩

theorem StrongOrder_holds : Rows.StrongOrderSaid :=
  OpenClaim.holds_of_wide 9 Try.f9 rfl rfl rfl rfl rfl rfl rfl ⟨rfl, rfl, rfl, rfl, rfl⟩ rfl rfl rfl rfl rfl (by kernel_rfl) Try.func9 (by kernel_rfl)
    (of_decide_eq_true (by kernel_rfl)) (by unfold Func.isWrapper; first | (rw [if_pos (by decide +kernel)]; kernel_rfl) | (rw [if_neg (by decide +kernel)]; exact ⟨rfl, rfl⟩))
    (fun os started H enc _ => strongOrder_lifted os started H enc)
#print axioms StrongOrder_holds
end
end Go.Proofs.Ytffgmjfanpgbbaa
