/- Texts of this proof, one behind the other; each fact names its conditions. -/
import Derived.Test.YtbddcokjkdoaaaaGreatFA24
import Derived.Test.YtbddcokjkdoaaaaGreatFA25
import Derived.Test.YtbddcokjkdoaaaaGreatFA26
import Derived.Test.YtbddcokjkdoaaaaGreatFA2
namespace Go.Proofs.YtbddcokjkdoaaaaGreat
set_option maxRecDepth 100000
set_option linter.unusedVariables false
open Go.RowKit Go.Shelf
set_option maxHeartbeats 1000000 in
theorem packFarther_law (A0 : Option Addr) (c0 : Nat) (R0 : List Rw) (B ls k : Int) (w : World) (hG : RdG w w.heap.size A0 R0) (hn : R0.length ≤ 140737488355328) (hcap : ∀ r ∈ R0, r.2.2.length ≤ r.2.1) :
    Calls Tryz.prog 7 #[.agg #[.slice A0 R0.length c0], .agg #[.int .i64 B, .int .i64 ls, .int .i64 k]] w fun e w' => e = .returned (.bool true) ∧ Below w.heap.size w w' := by
  have HBg : Hid (∀ V, Calls Tryz.prog 30 #[] V fun e w' => e = .returned (.bool true) ∧ Below V.heap.size V w') := fun V => packbegun_ok V
  have HSb : Hid (∀ V, Calls Tryz.prog 17 #[] V fun e w' => e = .returned (.bool true) ∧ Below V.heap.size V w') := fun V => succbegun_true V
  have HBb : Hid (∀ V, Calls Tryz.prog 22 #[] V fun e w' => e = .returned (.bool true) ∧ Below V.heap.size V w') := fun V => begun_true V
  obtain ⟨N, hN⟩ : ∃ N, R0.length = N := ⟨_, rfl⟩
  rw [hN] at hn ⊢
  rcases pack_ways R0 N hN hn hcap B ls k A0 c0 w hG with ⟨er, her, -, hP⟩ | ⟨g, B', ls', k', rfl, rfl, rfl, hB, hls, hk, hk2, hgr, hgl, hf, hP⟩
  · exact packfar_w w A0 N c0 B ls k er 0 0 0 0 0 0 0 [] 0 [] 0 [] (fun _ => []) (fun _ => []) HBg HSb HBb
      (Lib.hid fun V hV => told_l N B ls k A0 c0 0 0 0 0 0 0 [] 0 [] 0 [] er V (Lib.hid fun W hW => hP.out W (hV.trans (hW.mono hV.size))))
      (Lib.hid fun q => absurd q her) (Lib.hid fun _ => rfl) (Lib.hid fun q => absurd q her) (Lib.hid fun q => absurd q her) (Lib.hid fun q => absurd q her) (Lib.hid fun q => absurd q her)
  · have HTl : Hid (∀ V, Below w.heap.size w V → Calls Tryz.prog 26 #[.agg #[.slice A0 N c0], .agg #[.int .i64 (B' : Int), .int .i64 (ls' : Int), .int .i64 (k' : Int)]] V (PtP V N (ns (pkA B' ls' k' g N)) N (ns (pkS B' ls' k' g N)) 0)) := fun V hV =>
      told_l N _ _ _ A0 c0 _ _ _ _ _ _ _ N _ N _ 0 V (Lib.hid fun W hW => hP.out W (hV.trans (hW.mono hV.size)))
    have H2 : Hid ((0 : Int) = 0 → N = N ∧ (0 < N → (ns (pkA B' ls' k' g N))[0]? = some 0)) := fun _ => ⟨rfl, fun h => by
      unfold ns
      rw [List.getElem?_map, pkA_get h]
      have := bst_le B' ls' k' g 0
      have e : bst B' ls' k' g 0 = 0 := by omega
      rw [e]; rfl⟩
    have hn100 : N ≤ 100 := by rw [← hgl]; exact hgr.ok.nodes
    rcases pack_ways R0 N hN hn hcap 0 (ls' : Int) (k' : Int) A0 c0 w hG with ⟨er2, her2, hwhy, hP2⟩ | ⟨g2, B2, l2, k2, a1, a2, a3, -, -, -, -, hgr2, hgl2, hf2, hP2⟩
    · have he8 : er2 = 8 := by
        rcases hwhy g hgr with q | ⟨_, _, _, _, _, _, _, q⟩
        · exact absurd (hck_ok 0 ls' k' (by omega) hls hk hk2) q
        · exact q
      exact packfar_w w A0 N c0 _ _ _ 0 er2 0 0 0 0 0 N _ N _ 0 [] (fun _ => []) (fun _ => []) HBg HSb HBb HTl
        (Lib.hid fun _ V hV => write_l N _ _ _ A0 c0 0 0 0 0 0 0 [] 0 [] 0 [] er2 V (Lib.hid fun W hW => hP2.out W (hV.trans (hW.mono hV.size))))
        (Lib.hid fun q => absurd rfl q) H2 (Lib.hid fun _ _ => he8) (Lib.hid fun _ q => absurd q her2) (Lib.hid fun _ q => absurd q her2)
    · obtain rfl : B2 = 0 := by omega
      obtain rfl : l2 = ls' := by omega
      obtain rfl : k2 = k' := by omega
      have e : g2 = g := mapns_inj _ _ (hgr2.eq.symm.trans hgr.eq)
      subst e
      refine packfar_w w A0 N c0 _ _ _ 0 0 (N : Int) 0 (l2 : Int) (k2 : Int) ((pkB 0 l2 k2 g2 N).length : Int) N _ N _ (pack (pkB 0 l2 k2 g2 N)).length (pack (pkB 0 l2 k2 g2 N)) (pkB 0 l2 k2 g2) (fun i => sbits i 0 l2 k2 (row g2 i) []) HBg HSb HBb HTl
        (Lib.hid fun _ V hV => write_l N _ _ _ A0 c0 _ _ _ _ _ _ _ N _ N _ 0 V (Lib.hid fun W hW => hP2.out W (hV.trans (hW.mono hV.size))))
        (Lib.hid fun q => absurd rfl q) H2 (Lib.hid fun _ q => absurd rfl q) (Lib.hid fun _ _ => ⟨rfl, rfl, rfl, rfl, hn100, hf2⟩) (Lib.hid fun _ _ i hi => ?_)
      have hb0 : bst 0 l2 k2 g2 i = 0 := by have := bst_le 0 l2 k2 g2 i; omega
      have hP : pkB 0 l2 k2 g2 (i + 1) = pkB 0 l2 k2 g2 i ++ sbits i 0 l2 k2 (row g2 i) [] := by
        rw [pkB_succ, hb0]
        unfold ndB
        rw [if_pos rfl, List.nil_append]; rfl
      have hle := pkB_le 0 l2 k2 g2 (show i + 1 ≤ N by omega)
      rw [hP, List.length_append] at hle
      refine ⟨hP, by omega, ?_⟩
      obtain ⟨⟨A1, c1, x1⟩, e1⟩ : ∃ q, R0[i]?.getD (none, 0, []) = q := ⟨_, rfl⟩
      obtain ⟨bA, oA, hA, hbA, hcA⟩ : ∃ b off, A0 = some ⟨b, off, none⟩ ∧ b < w.heap.size ∧ w.cell? ⟨b, off + i, none⟩ = some (.slice A1 x1.length c1) := by
        rcases hG.1 with e | ⟨b, off, e, hb, hc⟩
        · have := congrArg List.length e
          rw [rcl_length, List.length_nil] at this; omega
        · exact ⟨b, off, e, hb, by have := hc _ _ (rcl_get R0 i (by omega)); rwa [e1] at this⟩
      refine ⟨bA, oA, A1, x1.length, c1, hA, hbA, hcA, fun V hV => ?_⟩
      have := nodeW hgr l2 k2 hls hk hk2 i 0 (by omega) (by omega) A0 A1 none x1.length 0 c1 0 x1 [] e1 (by unfold refR; rw [if_pos rfl]) rfl rfl (sbits i 0 l2 k2 (row g2 i) []) (by unfold ndF; rw [if_pos rfl]) V (hG.on hV)
      exact this
end Go.Proofs.YtbddcokjkdoaaaaGreat
