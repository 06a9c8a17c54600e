/- What Write, Told and Read of package pack answer, in any case. -/
import Derived.Test.YticdnodlapafoaaGreatPkRa
namespace Go.Proofs.YticdnodlapafoaaGreat
set_option maxRecDepth 100000
set_option linter.unusedVariables false
open Go.RowKit Go.Shelf

theorem hck_nat {b s k : Int} (h : hck b s k = 0) : ∃ B ls kk : Nat, b = (B : Int) ∧ s = (ls : Int) ∧ k = (kk : Int) ∧ B ≤ 7 ∧ (ls = 0 ∨ 2 ≤ ls ∧ ls ≤ 300) ∧ 1 ≤ kk ∧ kk ≤ 16 := by
  obtain ⟨⟨h1, h2⟩, h3, h4, h5⟩ := hck_zero b s k h
  exact ⟨b.toNat, s.toNat, k.toNat, by omega, by omega, by omega, by omega, by omega, by omega, by omega⟩
theorem mapns_inj : ∀ a b : List (List Nat), a.map ns = b.map ns → a = b
  | [], [], _ => rfl
  | [], _ :: _, h => by simp at h
  | _ :: _, [], h => by simp at h
  | x :: a, y :: b, h => by
    simp only [List.map_cons, List.cons.injEq] at h
    rw [ns_inj h.1, mapns_inj a b h.2]
/-- What pack answers. -/
theorem pack_ways (R : List Rw) (N : Nat) (hN : R.length = N) (hn : N ≤ 140737488355328) (hcap : ∀ r ∈ R, r.2.2.length ≤ r.2.1) (B ls k : Int) (AG : Option Addr) (cG : Nat) (w : World) (hG : RdG w w.heap.size AG R) :
    (∃ er : Int, er ≠ 0 ∧ ((∀ g, GrR g R → hck B ls k ≠ 0 ∨ (∃ B' ls' k' : Nat, B = (B' : Int) ∧ ls = (ls' : Int) ∧ k = (k' : Int) ∧ 8192 < (pkB B' ls' k' g N).length ∧ er = 8)) ∧ Hid (∀ V, Below w.heap.size w V → Calls Tryz.prog 63 #[.agg #[.slice AG N cG], .agg #[.int .i64 B, .int .i64 ls, .int .i64 k]] V (PaP V 0 0 0 0 0 0 [] 0 [] 0 [] er)))) ∨
    (∃ (g : List (List Nat)) (B' ls' k' : Nat), B = (B' : Int) ∧ ls = (ls' : Int) ∧ k = (k' : Int) ∧ B' ≤ 7 ∧ (ls' = 0 ∨ 2 ≤ ls' ∧ ls' ≤ 300) ∧ 1 ≤ k' ∧ k' ≤ 16 ∧ GrR g R ∧ g.length = N ∧ (pkB B' ls' k' g N).length ≤ 8192 ∧
      Hid (∀ V, Below w.heap.size w V → Calls Tryz.prog 63 #[.agg #[.slice AG N cG], .agg #[.int .i64 B, .int .i64 ls, .int .i64 k]] V (PaP V (N : Int) B ls k ((pkB B' ls' k' g N).length : Int) (pack (pkB B' ls' k' g N)).length (pack (pkB B' ls' k' g N)) N (ns (pkA B' ls' k' g N)) N (ns (pkS B' ls' k' g N)) 0))) := by
  by_cases h0 : (if grE (gs R) = 0 then hck B ls k else grE (gs R)) = 0
  · have h1 : grE (gs R) = 0 := by
      by_cases q : grE (gs R) = 0
      · exact q
      · rw [if_neg q] at h0; exact h0
    rw [if_pos h1] at h0
    obtain ⟨g, hg, hok⟩ := grE_zero _ h1
    have hGr : GrR g R := ⟨hok, hg, hcap⟩
    obtain ⟨B', ls', k', rfl, rfl, rfl, hB, hls, hk, hk2⟩ := hck_nat h0
    have hgl : g.length = N := by rw [← hGr.len]; exact hN
    by_cases hf : (pkB B' ls' k' g N).length ≤ 8192
    · refine .inr ⟨g, B', ls', k', rfl, rfl, rfl, hB, hls, hk, hk2, hGr, hgl, hf, fun V hV => ?_⟩
      refine (pack_ok hGr N hN B' ls' k' hB hls hk hk2 AG cG V (hG.on hV)).mono fun e w' h => ?_
      unfold PakP at h
      rw [if_pos hf] at h
      exact h
    · refine .inl ⟨8, by omega, fun g' hg' => .inr ⟨B', ls', k', rfl, rfl, rfl, ?_, rfl⟩, fun V hV => ?_⟩
      · have e : g' = g := by
          have q := hg'.eq.symm.trans hg
          exact mapns_inj _ _ q
        rw [e]; omega
      · refine (pack_ok hGr N hN B' ls' k' hB hls hk hk2 AG cG V (hG.on hV)).mono fun e w' h => ?_
        unfold PakP at h
        rw [if_neg hf] at h
        exact ⟨none, 0, none, 0, none, 0, h.1, .inl rfl, .inl rfl, .inl rfl, h.2⟩
  · refine .inl ⟨_, h0, fun g hg => .inl fun q => h0 ?_, fun V hV => pack_e R N hN hn B ls k _ rfl h0 AG cG V (hG.on hV)⟩
    rw [hg.eq, grE_ok g hg.ok, if_pos rfl, q]
/-- What Read answers. -/
theorem read_ways (N B ls k len : Int) (bs : List Nat) (n : Nat) (hn : bs.length = n) (hbs : ∀ x ∈ bs, x < 256) (A : Option Addr) (c : Nat) (w : World) (h : Rd w w.heap.size A bs) :
    (∃ er : Int, er ≠ 0 ∧ (pkdE N B ls k len bs = 0 → er = 1) ∧ (pkdE N B ls k len bs ≠ 0 → er = pkdE N B ls k len bs) ∧
      (∀ (g : List (List Nat)) (B' ls' k' : Nat), B = (B' : Int) → ls = (ls' : Int) → k = (k' : Int) → B' ≤ 7 → (ls' = 0 ∨ 2 ≤ ls' ∧ ls' ≤ 300) → 1 ≤ k' → k' ≤ 16 → GOk g → N = (g.length : Int) → len = ((pkB B' ls' k' g g.length).length : Int) → (pkB B' ls' k' g g.length).length ≤ 8192 → bs ≠ pack (pkB B' ls' k' g g.length)) ∧
      Hid (∀ V, Below w.heap.size w V → Calls Tryz.prog 31 #[.agg #[.int .i64 N, .int .i64 B, .int .i64 ls, .int .i64 k, .int .i64 len, .slice A n c]] V (PrE V er))) ∨
    (∃ (g : List (List Nat)) (B' ls' k' : Nat), B = (B' : Int) ∧ ls = (ls' : Int) ∧ k = (k' : Int) ∧ B' ≤ 7 ∧ (ls' = 0 ∨ 2 ≤ ls' ∧ ls' ≤ 300) ∧ 1 ≤ k' ∧ k' ≤ 16 ∧ GOk g ∧ N = (g.length : Int) ∧ len = ((pkB B' ls' k' g g.length).length : Int) ∧ (pkB B' ls' k' g g.length).length ≤ 8192 ∧ bs = pack (pkB B' ls' k' g g.length) ∧
      Hid (∀ V, Below w.heap.size w V → Calls Tryz.prog 31 #[.agg #[.int .i64 N, .int .i64 B, .int .i64 ls, .int .i64 k, .int .i64 len, .slice A n c]] V (PrG V g g.length))) := by
  have HCk := fun V (hV : Below w.heap.size w V) => ckp_any N B ls k len bs n hn hbs A c V (h.on hV)
  by_cases h0 : pkdE N B ls k len bs = 0
  · rw [h0] at HCk
    have h00 := h0
    unfold pkdE at h00
    have e1 : rgE 0 [decide (0 ≤ N), decide (N ≤ 100)] = 0 := by
      by_cases q : rgE 0 [decide (0 ≤ N), decide (N ≤ 100)] = 0
      · exact q
      · rw [if_pos q] at h00; exact absurd h00 q
    rw [if_neg (by simpa using e1)] at h00
    have e2 : hck B ls k = 0 := by
      by_cases q : hck B ls k = 0
      · exact q
      · rw [if_pos q] at h00; exact absurd h00 q
    rw [if_neg (by simpa using e2)] at h00
    obtain ⟨L, rfl, hL, rfl⟩ := chk_zero len bs hbs h00
    obtain ⟨B', ls', k', rfl, rfl, rfl, hB, hls, hk, hk2⟩ := hck_nat e2
    have e3 : 0 ≤ N ∧ N ≤ 100 := by
      unfold rgE at e1
      split at e1
      · omega
      · rename_i q
        simp at q
        exact q
    obtain ⟨M, rfl⟩ := Int.eq_ofNat_of_zero_le e3.1
    have hM : M ≤ 100 := by omega
    have HUn := fun V (hV : Below w.heap.size w V) => unpack_ok M B' ls' k' hM hB hls hk hk2 L hL A c V (h.on hV) _ rfl
    subst hn
    have hne : ∀ g : List (List Nat), GOk g → g.length = M → (pkB B' ls' k' g g.length).length ≤ 8192 → pack L = pack (pkB B' ls' k' g g.length) → L.length = (pkB B' ls' k' g g.length).length → rdA L B' ls' k' M = some (g, L.length) := fun g hok hgl hf hp hl => by
      have e : L = pkB B' ls' k' g g.length := by rw [← unpack_pack L, hp, hl, unpack_pack]
      have := rdA_all B' ls' k' hk hB g (gok_rows hok) (by omega)
      rw [← e, hgl] at this
      exact this
    cases hA : rdA L B' ls' k' M with
    | none =>
      rw [hA] at HUn
      refine .inl ⟨1, by omega, fun _ => rfl, fun q => absurd h0 q, fun g B2 l2 k2 a1 a2 a3 _ _ _ _ hok a4 a5 hf hp => ?_, fun V hV => ?_⟩
      · obtain rfl : B2 = B' := by omega
        obtain rfl : l2 = ls' := by omega
        obtain rfl : k2 = k' := by omega
        have := hne g hok (by omega) hf hp (by omega)
        rw [hA] at this; cases this
      · -- which error unpack gives is of no matter
        have hx : Hid (∀ V2, Below V.heap.size V V2 → Calls Tryz.prog 65 #[.agg #[.int .i64 (M : Int), .int .i64 (B' : Int), .int .i64 (ls' : Int), .int .i64 (k' : Int), .int .i64 (L.length : Int), .slice A (pack L).length c]] V2 fun e w' => ∃ er, e = .returned (.tuple #[.agg #[.slice none 0 0], .int .i64 er]) ∧ er ≠ 0 ∧ Below V2.heap.size V2 w') := fun V2 h2 => HUn V2 (hV.trans (h2.mono hV.size))
        exact pread_n2 _ _ _ _ _ _ c A V (fun V2 h2 => HCk V2 (hV.trans (h2.mono hV.size))) hx
    | some q =>
      obtain ⟨G, s⟩ := q
      rw [hA] at HUn
      have hGl := rdA_len L B' ls' k' M G s hA
      have hGr := (rdA_inv hk M G s (by omega) hA).1
      by_cases hok : GOk G ∧ pkB B' ls' k' G M = L
      · right
        obtain ⟨hok, hp⟩ := hok
        refine ⟨G, B', ls', k', rfl, rfl, rfl, hB, hls, hk, hk2, hok, by rw [hGl], by rw [hGl, hp], by rw [hGl, hp]; exact hL, by rw [hGl, hp], fun V hV => ?_⟩
        refine pread_g _ _ _ _ _ _ c A G G.length true _ V (fun _ e w' q => q) (fun q => by cases q) (Lib.hid fun V2 h2 => HCk V2 (hV.trans (h2.mono hV.size))) (Lib.hid fun V2 h2 => HUn V2 (hV.trans (h2.mono hV.size))) (Lib.hid fun AG cG R V2 h2 h3 h4 h5 => ?_)
        have hR : GrR G R := ⟨hok, h4, h5⟩
        have hRl : R.length = G.length := hR.len
        have HPk : ∀ V4, Below V2.heap.size V2 V4 → Calls Tryz.prog 63 #[.agg #[.slice AG G.length cG], .agg #[.int .i64 (B' : Int), .int .i64 (ls' : Int), .int .i64 (k' : Int)]] V4 (PaP V4 (G.length : Int) (B' : Int) (ls' : Int) (k' : Int) (L.length : Int) (pack L).length (pack L) G.length (ns (pkA B' ls' k' G G.length)) G.length (ns (pkS B' ls' k' G G.length)) 0) := fun V4 h7 => (pack_ok hR G.length hRl B' ls' k' hB hls hk hk2 AG cG V4 (h3.on h7)).mono fun e w' h8 => by
          unfold PakP at h8
          rw [hGl, hp, if_pos hL] at h8
          rw [hGl]
          exact h8
        have HSm : ∀ A' c' V3, Below V2.heap.size V2 V3 → Rd V3 V3.heap.size A' (pack L) → Calls Tryz.prog 95 #[.agg #[.int .i64 (L.length : Int), .slice A' (pack L).length c'], .agg #[.int .i64 (L.length : Int), .slice A (pack L).length c]] V3 fun e w' => e = .returned (.bool true) ∧ Below V3.heap.size V3 w' := fun A' c' V3 h6 h7 => by
          have := csame_any (L.length : Int) (L.length : Int) (pack L) (pack L) _ _ rfl rfl (pack_lt L) (pack_lt L) A' A c' c V3 h7 (h.on (hV.trans ((h2.trans (h6.mono h2.size)).mono hV.size)))
          rw [decide_eq_true rfl, decide_eq_true rfl, Bool.and_true] at this
          exact this
        exact isfor_l _ _ _ _ _ _ c A G.length cG AG (G.length : Int) (B' : Int) (ls' : Int) (k' : Int) (L.length : Int) (pack L).length (pack L) 0 true true rfl V2 (Lib.hid fun V3 h6 => write_l G.length _ _ _ AG cG _ _ _ _ _ _ _ _ _ _ _ 0 V3 (Lib.hid fun V4 h7 => HPk V4 (h6.trans (h7.mono h6.size)))) (Lib.hid HSm)
      · left
        refine ⟨1, by omega, fun _ => rfl, fun q => absurd h0 q, fun g B2 l2 k2 a1 a2 a3 _ _ _ _ hok2 a4 a5 hf hp => ?_, fun V hV => ?_⟩
        · obtain rfl : B2 = B' := by omega
          obtain rfl : l2 = ls' := by omega
          obtain rfl : k2 = k' := by omega
          have := hne g hok2 (by omega) hf hp (by omega)
          rw [hA] at this
          simp only [Option.some.injEq, Prod.mk.injEq] at this
          obtain ⟨rfl, -⟩ := this
          refine hok ⟨hok2, ?_⟩
          rw [← hGl, ← unpack_pack (pkB _ _ _ _ _), ← hp, ← show L.length = (pkB B2 l2 k2 G G.length).length by omega, unpack_pack]
        · refine pread_g _ _ _ _ _ _ c A G G.length false _ V (fun q => by cases q) (fun _ e w' q => q) (Lib.hid fun V2 h2 => HCk V2 (hV.trans (h2.mono hV.size))) (Lib.hid fun V2 h2 => HUn V2 (hV.trans (h2.mono hV.size))) (Lib.hid fun AG cG R V2 h2 h3 h4 h5 => ?_)
          have hRl : R.length = G.length := by have := congrArg List.length h4; rwa [gs_length, List.length_map] at this
          rcases pack_ways R G.length hRl (by omega) h5 (B' : Int) (ls' : Int) (k' : Int) AG cG V2 h3 with ⟨er, her, -, hP⟩ | ⟨g, B2, l2, k2, a1, a2, a3, -, -, -, -, hgr, hgl, hf, hP⟩
          · refine isfor_l _ _ _ _ _ _ c A G.length cG AG _ _ _ _ _ _ _ er (decide ((0 : Int) = (L.length : Int)) && decide (([] : List Nat) = pack L)) false (by rw [decide_eq_false her]; rfl) V2 (Lib.hid fun V3 h6 => write_l G.length _ _ _ AG cG _ _ _ _ _ _ _ _ _ _ _ er V3 (Lib.hid fun V4 h7 => hP.out V4 (h6.trans (h7.mono h6.size)))) (Lib.hid fun A' c' V3 h6 h7 => ?_)
            exact csame_any 0 (L.length : Int) [] (pack L) _ _ rfl rfl (by simp) (pack_lt L) A' A c' c V3 h7 (h.on (hV.trans ((h2.trans (h6.mono h2.size)).mono hV.size)))
          · obtain rfl : B2 = B' := by omega
            obtain rfl : l2 = ls' := by omega
            obtain rfl : k2 = k' := by omega
            have e : g = G := mapns_inj _ _ (hgr.eq.symm.trans h4)
            subst e
            have hpn : pkB B2 l2 k2 g g.length ≠ L := fun q => hok ⟨hgr.ok, by rw [← hGl]; exact q⟩
            refine isfor_l _ _ _ _ _ _ c A g.length cG AG _ _ _ _ _ _ _ 0 (decide (((pkB B2 l2 k2 g g.length).length : Int) = (L.length : Int)) && decide (pack (pkB B2 l2 k2 g g.length) = pack L)) false ?_ V2 (Lib.hid fun V3 h6 => write_l g.length _ _ _ AG cG _ _ _ _ _ _ _ _ _ _ _ 0 V3 (Lib.hid fun V4 h7 => hP.out V4 (h6.trans (h7.mono h6.size)))) (Lib.hid fun A' c' V3 h6 h7 => ?_)
            · rw [decide_eq_true rfl, Bool.true_and, Bool.and_eq_false_iff]
              by_cases q : (pkB B2 l2 k2 g g.length).length = L.length
              · right
                refine decide_eq_false fun q2 => hpn ?_
                rw [← unpack_pack (pkB _ _ _ _ _), q2, q, unpack_pack]
              · left; exact decide_eq_false (by omega)
            · exact csame_any _ (L.length : Int) _ (pack L) _ _ rfl rfl (pack_lt _) (pack_lt L) A' A c' c V3 h7 (h.on (hV.trans ((h2.trans (h6.mono h2.size)).mono hV.size)))
  · refine .inl ⟨_, h0, fun q => absurd q h0, fun _ => rfl, fun g B' ls' k' a1 a2 a3 hB hls hk hk2 hok a4 a5 hf hp => h0 ?_, fun V hV => ?_⟩
    · subst a1; subst a2; subst a3; subst a4; subst a5; subst hp
      have := hok.nodes
      unfold pkdE
      rw [hck_ok B' ls' k' hB hls hk hk2, chk_pack _ hf, decide_eq_true (show (0 : Int) ≤ (g.length : Int) by omega), decide_eq_true (show (g.length : Int) ≤ 100 by omega)]
      decide
    · exact pread_e N B ls k len n c A _ (by simpa using h0) V (Lib.hid fun V2 h2 => HCk V2 (hV.trans (h2.mono hV.size)))
end Go.Proofs.YticdnodlapafoaaGreat
