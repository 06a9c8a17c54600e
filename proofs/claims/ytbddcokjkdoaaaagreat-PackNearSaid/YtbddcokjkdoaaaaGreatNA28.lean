/- Texts of this proof, one behind the other; each fact names its conditions. -/
import Derived.Test.YtbddcokjkdoaaaaGreatNA26
import Derived.Test.YtbddcokjkdoaaaaGreatNA27
import Derived.Test.YtbddcokjkdoaaaaGreatNA25
import Derived.Test.YtbddcokjkdoaaaaGreatNA2
namespace Go.Proofs.YtbddcokjkdoaaaaGreat
set_option maxRecDepth 100000
set_option linter.unusedVariables false
open Go.RowKit Go.Shelf
theorem nd_split (B ls k : Nat) (g : List (List Nat)) (i r : Nat) : (ndB B ls k g i r).length = (if B = 0 then 0 else (gam r).length) + (sbits i r ls k (row g i) (ndF g i r)).length := by
  unfold ndB
  rw [List.length_append]
  split <;> simp
set_option maxHeartbeats 1000000 in
theorem near1_ok {g : List (List Nat)} {R : List Rw} (h : GrR g R) (N : Nat) (hN : R.length = N) (B ls k : Nat) (hB : B ≤ 7) (hls : ls = 0 ∨ 2 ≤ ls ∧ ls ≤ 300) (hk : 1 ≤ k) (hk2 : k ≤ 16) (i r : Nat) (hi : i < N) (hr : r ≤ min B i) (A : Option Addr) (c : Nat) (w : World) (hG : RdG w w.heap.size A R) (V : World) (hV : NeI w V A N c (B : Int) (ls : Int) (k : Int) (i : Int)) :
    Calls Tryz.prog 33 #[.int .i64 (r : Int), .pointer (some ⟨w.heap.size + 1, 0, none⟩), .pointer (some ⟨w.heap.size, 0, none⟩), .pointer (some ⟨w.heap.size + 1 + 1, 0, none⟩)] V (GvM V ((sbits i r ls k (row g i) (ndF g i r)).length : Int) (pack (sbits i r ls k (row g i) (ndF g i r))).length (pack (sbits i r ls k (row g i) (ndF g i r))) ((ndB B ls k g i r).length : Int)) := by
  have hn := h.ok.nodes
  have hl := h.len
  obtain ⟨⟨A1, c1, x1⟩, e1⟩ : ∃ q, R[i]?.getD (none, 0, []) = q := ⟨_, rfl⟩
  obtain ⟨⟨A2, c2, x2⟩, e2⟩ : ∃ q, refR R i r = q := ⟨_, rfl⟩
  obtain ⟨bA, oA, rfl, hbA, hcs⟩ : ∃ b off, A = some ⟨b, off, none⟩ ∧ b < w.heap.size ∧ ∀ j v, (rcl R)[j]? = some v → w.cell? ⟨b, off + j, none⟩ = some v := by
    rcases hG.1 with e | ⟨b, off, e, hb, hc⟩
    · have := congrArg List.length e
      rw [rcl_length, List.length_nil] at this; omega
    · exact ⟨b, off, e, hb, fun j v hj => hc _ _ hj⟩
  have hc1 : w.cell? ⟨bA, oA + i, none⟩ = some (.slice A1 x1.length c1) := by have := hcs _ _ (rcl_get R i (by omega)); rwa [e1] at this
  have hroom := ndB_room B ls k hB hk hk2 g h.ok i r (by omega) hr
  have hlow : ∀ W, Below V.heap.size V W → Below w.heap.size w W := fun W hW => hV.low.trans (hW.mono hV.low.size)
  refine near1_w V (w.heap.size + 1) w.heap.size (w.heap.size + 1 + 1) N c i r (if B = 0 then 0 else (gam r).length) _ (B : Int) (ls : Int) (k : Int) _ A1 x1.length c1 A2 x2.length c2 bA oA (Lib.hid fun W hW => ?_) hi (by omega) (by omega) ?_ ?_ (Lib.hid fun W hW => nodeW h ls k hls hk hk2 i r (by omega) (by omega) _ A1 A2 x1.length x2.length c1 c2 x1 x2 e1 e2 rfl rfl _ rfl W (hG.on (hlow W hW))) (nd_split B ls k g i r).symm ?_
  · have h2 := hV.on hW
    obtain ⟨y1, y2, y3⟩ := how_at h2.h
    exact ⟨y1, y2, y3, box_cell h2.g, box_cell h2.n, (h2.low.cell (p := ⟨bA, oA + i, none⟩) hbA).trans hc1⟩
  · by_cases h0 : r = 0
    · unfold refR at e2
      rw [if_pos h0] at e2
      injection e2 with q1 q2
      injection q2 with q2 q3
      subst q1; subst q2; subst q3
      exact .inl ⟨h0, rfl, rfl, rfl⟩
    · unfold refR at e2
      rw [if_neg h0] at e2
      refine .inr ⟨by omega, i - r, by omega, fun W hW => ?_⟩
      have h3 := hcs _ _ (rcl_get R (i - r) (by omega))
      rw [e2] at h3
      exact ((hlow W hW).cell (p := ⟨bA, oA + (i - r), none⟩) hbA).trans h3
  · by_cases h0 : B = 0
    · exact .inl ⟨by omega, by rw [if_pos h0]⟩
    · refine .inr ⟨by omega, fun W => ?_⟩
      rw [if_neg h0]
      exact (gammaList_any r (by omega) _ rfl W).mono fun e w' q => by { obtain ⟨A, c, q1, q2, q3⟩ := q; exact ⟨⟨A, c, q1⟩, q3⟩ }
  · have := hroom.2; omega
set_option maxHeartbeats 1000000 in
theorem packNear_law (A0 : Option Addr) (c0 : Nat) (R0 : List Rw) (B ls k node back : Int) (w : World) (hG : RdG w w.heap.size A0 R0) (hn : R0.length ≤ 140737488355328) (hcap : ∀ r ∈ R0, r.2.2.length ≤ r.2.1) :
    Calls Tryz.prog 6 #[.agg #[.slice A0 R0.length c0], .agg #[.int .i64 B, .int .i64 ls, .int .i64 k], .int .i64 node, .int .i64 back] w fun e w' => e = .returned (.bool true) ∧ Below w.heap.size w w' := by
  have HBg : Hid (∀ V, Calls Tryz.prog 30 #[] V fun e w' => e = .returned (.bool true) ∧ Below V.heap.size V w') := fun V => packbegun_ok V
  have HSb : Hid (∀ V, Calls Tryz.prog 17 #[] V fun e w' => e = .returned (.bool true) ∧ Below V.heap.size V w') := fun V => succbegun_true V
  have HBb : Hid (∀ V, Calls Tryz.prog 22 #[] V fun e w' => e = .returned (.bool true) ∧ Below V.heap.size V w') := fun V => begun_true V
  obtain ⟨N, hN⟩ : ∃ N, R0.length = N := ⟨_, rfl⟩
  rw [hN] at hn ⊢
  rcases pack_ways R0 N hN hn hcap B ls k A0 c0 w hG with ⟨er, her, -, hP⟩ | ⟨g, B', ls', k', rfl, rfl, rfl, hB, hls, hk, hk2, hgr, hgl, hf, hP⟩
  · exact packnear_a w A0 N c0 B ls k node back er 0 0 0 0 0 0 [] 0 [] 0 [] HBg HSb HBb
      (Lib.hid fun V hV => write_l N B ls k A0 c0 0 0 0 0 0 0 [] 0 [] 0 [] er V (Lib.hid fun W hW => hP.out W (hV.trans (hW.mono hV.size))))
      (Lib.hid fun V hV => told_l N B ls k A0 c0 0 0 0 0 0 0 [] 0 [] 0 [] er V (Lib.hid fun W hW => hP.out W (hV.trans (hW.mono hV.size)))) (.inl her)
  · have HW : Hid (∀ V, Below w.heap.size w V → Calls Tryz.prog 24 #[.agg #[.slice A0 N c0], .agg #[.int .i64 (B' : Int), .int .i64 (ls' : Int), .int .i64 (k' : Int)]] V (PwP V (N : Int) (B' : Int) (ls' : Int) (k' : Int) ((pkB B' ls' k' g N).length : Int) (pack (pkB B' ls' k' g N)).length (pack (pkB B' ls' k' g N)) 0)) := fun V hV =>
      write_l N _ _ _ A0 c0 _ _ _ _ _ _ _ N _ N _ 0 V (Lib.hid fun W hW => hP.out W (hV.trans (hW.mono hV.size)))
    have HTl : Hid (∀ V, Below w.heap.size w V → Calls Tryz.prog 26 #[.agg #[.slice A0 N c0], .agg #[.int .i64 (B' : Int), .int .i64 (ls' : Int), .int .i64 (k' : Int)]] V (PtP V N (ns (pkA B' ls' k' g N)) N (ns (pkS B' ls' k' g N)) 0)) := fun V hV =>
      told_l N _ _ _ A0 c0 _ _ _ _ _ _ _ N _ N _ 0 V (Lib.hid fun W hW => hP.out W (hV.trans (hW.mono hV.size)))
    have hn100 : N ≤ 100 := by rw [← hgl]; exact hgr.ok.nodes
    by_cases hno : node < 0 ∨ (N : Int) ≤ node
    · exact packnear_a w A0 N c0 _ _ _ node back 0 _ _ _ _ _ _ _ _ _ _ _ HBg HSb HBb HW HTl (.inr ⟨rfl, rfl, rfl, hno⟩)
    · obtain ⟨i, rfl⟩ := Int.eq_ofNat_of_zero_le (show 0 ≤ node by omega)
      have hi : i < N := by omega
      clear hno
      have hrle := bst_le B' ls' k' g i
      obtain ⟨r, hr⟩ : ∃ r, bst B' ls' k' g i = r := ⟨_, rfl⟩
      rw [hr] at hrle
      have hsp := nd_split B' ls' k' g i r
      have hpk : pkB B' ls' k' g (i + 1) = pkB B' ls' k' g i ++ ndB B' ls' k' g i r := by rw [pkB_succ, hr]
      have hpl : (pkB B' ls' k' g (i + 1)).length = (pkB B' ls' k' g i).length + (ndB B' ls' k' g i r).length := by rw [hpk, List.length_append]
      have hle := pkB_le B' ls' k' g (show i + 1 ≤ N by omega)
      obtain ⟨T, hT⟩ := pkB_pre B' ls' k' g (i + 1) N (by omega)
      obtain ⟨L, hL⟩ : ∃ L, sbits i r ls' k' (row g i) (ndF g i r) = L := ⟨_, rfl⟩
      have hnd : ndB B' ls' k' g i r = (if B' = 0 then [] else gam r) ++ L := by rw [← hL]; rfl
      rw [hL] at hsp
      have hHL : (if B' = 0 then ([] : List Bool) else gam r).length = if B' = 0 then 0 else (gam r).length := by split <;> rfl
      have hnz : ∀ (l : List Nat) (j x : Nat), l[j]? = some x → (ns l)[j]? = some (x : Int) := fun l j x h => by unfold ns; rw [List.getElem?_map, h]; rfl
      refine packnear_b w A0 N c0 (B' : Int) (ls' : Int) (k' : Int) back (N : Int) (B' : Int) (ls' : Int) (k' : Int) _ _ i r (pkB B' ls' k' g i).length (pkB B' ls' k' g (i + 1)).length ((pkB B' ls' k' g i).length + (if B' = 0 then 0 else (gam r).length)) (ndB B' ls' k' g i r).length L (pkB B' ls' k' g N) 0 _ _ N N _ _ rfl rfl rfl rfl rfl rfl rfl HBg HSb HBb HW HTl hi hn100
        (hnz _ _ _ (by rw [pkA_get hi, hr])) (hnz _ _ _ (pkS_get hi)) (fun q => hnz _ _ _ (pkS_get q)) (fun q => by rw [show N = i + 1 by omega]) (by omega) (by omega) (by omega) hpl.symm hle hf (by omega) ?_ (Lib.hid fun V hV => ?_) (Lib.hid fun hq => ?_)
      · rw [← hT, hpk, hnd]
        have e : pkB B' ls' k' g i ++ ((if B' = 0 then [] else gam r) ++ L) ++ T = (pkB B' ls' k' g i ++ (if B' = 0 then [] else gam r)) ++ (L ++ T) := by simp
        rw [e, List.drop_left' (by rw [List.length_append, hHL]), List.take_left']
        rw [List.length_append, List.length_append, hHL]; omega
      · have := near1_ok hgr N hN B' ls' k' hB hls hk hk2 i r hi hrle A0 c0 w hG V hV
        rw [hL] at this
        exact this
      · obtain ⟨q, rfl⟩ := Int.eq_ofNat_of_zero_le (show 0 ≤ back by omega)
        have hqle : q ≤ min B' i := by omega
        have hm := bst_min B' ls' k' g i q hqle
        rw [hr] at hm
        refine ⟨sbits i q ls' k' (row g i) (ndF g i q), (ndB B' ls' k' g i q).length, ?_, fun V hV => near1_ok hgr N hN B' ls' k' hB hls hk hk2 i q hi hqle A0 c0 w hG V hV⟩
        rcases Nat.lt_or_ge q r with h | h
        · have := bst_first B' ls' k' g i q (by omega)
          rw [hr] at this
          exact .inl this
        · rcases Nat.lt_or_ge (ndB B' ls' k' g i r).length (ndB B' ls' k' g i q).length with h2 | h2
          · exact .inl h2
          · exact .inr ⟨by omega, by omega⟩
end Go.Proofs.YtbddcokjkdoaaaaGreat
