/- What is asked of the arcs of a list, one by one; each with its conditions. -/
import Derived.Test.YtnbjhldpadjgfaaWSet
import Derived.Test.YtnbjhldpadjgfaaWGok
namespace Go.Proofs.Ytnbjhldpadjgfaa
set_option maxRecDepth 100000
set_option linter.unusedVariables false
open Go.RowKit Go.Shelf

/-- An arc of whole numbers, as it is kept. -/
def toA (p : Ri) : Ar := (p.1.toNat, p.2.toNat)
/-- The error of an arc behind those that there are. -/
def caO (N : Int) (S : List Ar) (p : Ri) : Int := if okG N p.1 = true ∧ okG N p.2 = true then (if toA p ∈ S then 6 else 0) else 3
def caE (N : Int) : List Ar → List Ri → Int
  | _, [] => 0
  | S, p :: t => if caO N S p = 0 then caE N (S ++ [toA p]) t else caO N S p
theorem caE_cons (N : Int) (S : List Ar) (p : Ri) (t : List Ri) : caE N S (p :: t) = if caO N S p = 0 then caE N (S ++ [toA p]) t else caO N S p := rfl
theorem caO_zero {N : Int} {S : List Ar} {p : Ri} (h : caO N S p = 0) : okG N p.1 = true ∧ okG N p.2 = true ∧ toA p ∉ S := by
  unfold caO at h
  by_cases h1 : okG N p.1 = true ∧ okG N p.2 = true
  · rw [if_pos h1] at h
    by_cases h2 : toA p ∈ S
    · rw [if_pos h2] at h; cases h
    · exact ⟨h1.1, h1.2, h2⟩
  · rw [if_neg h1] at h; cases h
theorem caO_of {N : Int} {S : List Ar} {a : Ar} (h1 : (a.1 : Int) < N) (h2 : (a.2 : Int) < N) (h3 : a ∉ S) : caO N S ((a.1 : Int), (a.2 : Int)) = 0 := by
  unfold caO okG toA
  rw [if_pos ⟨by simp; omega, by simp; omega⟩, if_neg (by simpa using h3)]
theorem caE_zero (N : Int) : ∀ (l : List Ri) (S : List Ar), S.Nodup → caE N S l = 0 → ∃ L : List Ar, l = rz L ∧ (S ++ L).Nodup ∧ ∀ a ∈ L, (a.1 : Int) < N ∧ (a.2 : Int) < N
  | [], S, hS, _ => ⟨[], rfl, by simpa using hS, by simp⟩
  | p :: t, S, hS, h => by
    rw [caE_cons] at h
    by_cases h0 : caO N S p = 0
    · rw [if_pos h0] at h
      obtain ⟨h1, h2, h3⟩ := caO_zero h0
      unfold okG at h1 h2
      simp only [decide_eq_true_eq] at h1 h2
      have hS2 : (S ++ [toA p]).Nodup := List.nodup_append.2 ⟨hS, by simp, by rintro x hx y hy rfl; simp at hy; subst hy; exact h3 hx⟩
      obtain ⟨L, e, hn, hb⟩ := caE_zero N t _ hS2 h
      have e1 : ((p.1.toNat : Nat) : Int) = p.1 := Int.toNat_of_nonneg h1.1
      have e2 : ((p.2.toNat : Nat) : Int) = p.2 := Int.toNat_of_nonneg h2.1
      refine ⟨toA p :: L, ?_, by simpa using hn, fun a ha => ?_⟩
      · rw [e]; unfold rz toA; rw [List.map_cons, e1, e2]
      · rcases List.mem_cons.1 ha with rfl | ha
        · unfold toA; simp only; omega
        · exact hb a ha
    · rw [if_neg h0] at h; exact absurd h h0
theorem caE_ok (N : Int) : ∀ (L S : List Ar), (S ++ L).Nodup → (∀ a ∈ L, (a.1 : Int) < N ∧ (a.2 : Int) < N) → caE N S (rz L) = 0
  | [], S, _, _ => rfl
  | a :: t, S, hn, hb => by
    have ha := hb a (by simp)
    have hna : a ∉ S := fun hm => (List.nodup_append.1 hn).2.2 a hm a (by simp) rfl
    have h0 := caO_of (S := S) ha.1 ha.2 hna
    show caE N S (((a.1 : Int), (a.2 : Int)) :: rz t) = 0
    rw [caE_cons, if_pos h0]
    have e : toA ((a.1 : Int), (a.2 : Int)) = a := by unfold toA; simp
    rw [e]
    exact caE_ok N t _ (by simpa using hn) (fun b hb' => hb b (by simp [hb']))

theorem below_grown {w w' : World} {b : Nat} (h : w.grownBy w' (some b)) (hb : b < w.heap.size) : Below b w w' :=
  (Below.refl b w).grown h (by omega) (fun k e => by cases e; exact Nat.le_refl _)
set_option maxHeartbeats 1000000 in
/-- One arc is looked at. -/
theorem arc1_any (N : Int) (hN : N ≤ 100) (p : Ri) (n : Nat) (hn : n ≤ 1000) (S : List Ar) (Bi Bm bm Bn : Nat) (hi : Bi < bm) (hb : Bn < bm) (hm : bm < Bm) (w : World)
    (hBi : w.heap[Bi]? = some (.cells #[.func (.func 80) #[] #[.pointer (some ⟨Bn, 0, none⟩)]] 54 (0, 0))) (hBn : w.heap[Bn]? = some (.cells #[.int .i64 N] 3 (0, 0))) (hBm : w.heap[Bm]? = some (.cells #[.map (some bm)] 100 (0, 0))) (hS : ASet w bm n S) :
    Calls Try.prog 79 (#[.agg #[.int .i64 p.1, .int .i64 p.2]] ++ #[.pointer (some ⟨Bi, 0, none⟩), .pointer (some ⟨Bm, 0, none⟩)]) w fun e w' => e = .returned (.int .i64 (caO N S p)) ∧ Below bm w w' ∧ w'.heap[Bm]? = some (.cells #[.map (some bm)] 100 (0, 0)) ∧ (caO N S p = 0 → ASet w' bm (n + 1) (S ++ [toA p])) := by
  show Calls Try.prog 79 #[.agg #[.int .i64 p.1, .int .i64 p.2], .pointer (some ⟨Bi, 0, none⟩), .pointer (some ⟨Bm, 0, none⟩)] w _
  obtain ⟨V, hV⟩ : ∃ V, w.alloc (.cells #[.int .i64 p.1, .int .i64 p.2] 36) = V := ⟨_, rfl⟩
  have hB := one_below w (.cells #[.int .i64 p.1, .int .i64 p.2] 36)
  have hn0 := World.alloc_heap_new w (.cells #[.int .i64 p.1, .int .i64 p.2] 36)
  rw [hV] at hB hn0
  have hlm : Bm < w.heap.size := (Array.getElem?_eq_some_iff.1 hBm).1
  have k0 : V.cell? ⟨w.heap.size, 0, none⟩ = some (.int .i64 p.1) := (cell_at hn0 0).trans rfl
  have k1 : V.cell? ⟨w.heap.size, 1, none⟩ = some (.int .i64 p.2) := (cell_at hn0 1).trans rfl
  have ki : V.cell? ⟨Bi, 0, none⟩ = some (.func (.func 80) #[] #[.pointer (some ⟨Bn, 0, none⟩)]) := (cell_at ((hB.block Bi (by omega)).trans hBi) 0).trans rfl
  have km : V.cell? ⟨Bm, 0, none⟩ = some (.map (some bm)) := (cell_at ((hB.block Bm hlm).trans hBm) 0).trans rfl
  have hSV : ASet V bm n S := hS.below hB (by omega)
  have hvs : w.heap.size < V.heap.size := (Array.getElem?_eq_some_iff.1 hn0).1
  have HN := Lib.hid (fun x => isnode1 N x Bn V ((hB.block Bn (by omega)).trans hBn))
  have HF : Hid (Below bm w V ∧ V.heap[Bm]? = some (.cells #[.map (some bm)] 100 (0, 0))) := ⟨hB.mono (by omega), (hB.block Bm hlm).trans hBm⟩
  obtain ⟨p1, p2⟩ := p
  simp only at k0 k1 hV
  clear hBi hBn hBm hS hB hn0
  subst hV
  by_cases h1 : okG N p1 = true
  · by_cases h2 : okG N p2 = true
    · have hlt := h1
      have hlt2 := h2
      unfold okG at hlt hlt2
      simp only [decide_eq_true_eq] at hlt hlt2
      obtain ⟨a, ha1, ha2⟩ : ∃ a : Ar, (a.1 : Int) = p1 ∧ (a.2 : Int) = p2 := ⟨(p1.toNat, p2.toNat), Int.toNat_of_nonneg hlt.1, Int.toNat_of_nonneg hlt2.1⟩
      have hsm : SmA a := ⟨by omega, by omega⟩
      have hta : toA (p1, p2) = a := by unfold toA; simp only; rw [← ha1, ← ha2]; simp
      have hca : caO N S (p1, p2) = if a ∈ S then 6 else 0 := by unfold caO; rw [if_pos ⟨h1, h2⟩, hta]
      have HN1 := HN.out p1
      have HN2 := HN.out p2
      rw [h1] at HN1
      rw [h2] at HN2
      have HN1 := Lib.hid HN1
      have HN2 := Lib.hid HN2
      have hlk := hSV.look a hsm
      obtain ⟨w3, hst, hS3, hg3⟩ := hSV.put (by omega) a hsm
      rw [ha1, ha2] at hlk hst
      rw [hta]
      clear h1 h2 hlt hlt2 HN hta ha1 ha2
      by_cases hmem : a ∈ S
      · rw [if_pos hmem] at hca
        rw [hca]
        rw [decide_eq_true hmem] at hlk
        clear hca hmem hst hS3 hg3
        go_enter Try.func79, Try.ntmps79
        go_wp2_with fail
        refine HN1.out.mono ?_
        rintro e w1 ⟨rfl, rfl⟩
        go_wp2_with fail
        refine HN2.out.mono ?_
        rintro e w1 ⟨rfl, rfl⟩
        go_wp2
        go_ret
        exact ⟨rfl, HF.out.1, HF.out.2, fun h => by cases h⟩
      · rw [if_neg hmem] at hca
        rw [hca]
        rw [decide_eq_false hmem] at hlk
        have hai : ains S a = S ++ [a] := by unfold ains; rw [if_neg hmem]
        have HE : Hid (Below bm w w3 ∧ w3.heap[Bm]? = some (.cells #[.map (some bm)] 100 (0, 0)) ∧ ASet w3 bm (n + 1) (S ++ [a])) :=
          ⟨HF.out.1.trans (below_grown hg3 hSV.lt), (hg3.block Bm (by omega) (by simp; omega)).trans HF.out.2, by rw [← hai]; exact hS3⟩
        clear hca hmem hS3 hg3 hai
        go_enter Try.func79, Try.ntmps79
        go_wp2_with fail
        refine HN1.out.mono ?_
        rintro e w1 ⟨rfl, rfl⟩
        go_wp2_with fail
        refine HN2.out.mono ?_
        rintro e w1 ⟨rfl, rfl⟩
        go_wp2
        go_ret
        exact ⟨rfl, HE.out.1, HE.out.2.1, fun _ => HE.out.2.2⟩
    · have hca : caO N S (p1, p2) = 3 := by unfold caO; rw [if_neg (fun q => h2 q.2)]
      have h2' : okG N p2 = false := by simpa using h2
      have HN1 := HN.out p1
      have HN2 := HN.out p2
      rw [h1] at HN1
      rw [h2'] at HN2
      have HN1 := Lib.hid HN1
      have HN2 := Lib.hid HN2
      rw [hca]
      clear h1 h2 h2' HN hca
      go_enter Try.func79, Try.ntmps79
      go_wp2_with fail
      refine HN1.out.mono ?_
      rintro e w1 ⟨rfl, rfl⟩
      go_wp2_with fail
      refine HN2.out.mono ?_
      rintro e w1 ⟨rfl, rfl⟩
      go_wp2
      go_ret
      exact ⟨rfl, HF.out.1, HF.out.2, fun h => by cases h⟩
  · have hca : caO N S (p1, p2) = 3 := by unfold caO; rw [if_neg (fun q => h1 q.1)]
    have h1' : okG N p1 = false := by simpa using h1
    have HN1 := HN.out p1
    rw [h1'] at HN1
    have HN1 := Lib.hid HN1
    rw [hca]
    clear h1 h1' HN hca
    go_enter Try.func79, Try.ntmps79
    go_wp2_with fail
    refine HN1.out.mono ?_
    rintro e w1 ⟨rfl, rfl⟩
    go_wp2
    go_ret
    exact ⟨rfl, HF.out.1, HF.out.2, fun h => by cases h⟩
end Go.Proofs.Ytnbjhldpadjgfaa
