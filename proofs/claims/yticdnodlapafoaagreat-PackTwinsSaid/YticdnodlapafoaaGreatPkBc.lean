/- What packBegun asks of pack: Write, Told and Read of the graph whose lists are alike. -/
import Derived.Test.YticdnodlapafoaaGreatPkSa
namespace Go.Proofs.YticdnodlapafoaaGreat
set_option maxRecDepth 100000
set_option linter.unusedVariables false
open Go.RowKit Go.Shelf

def sgL : List Bool := pkB 3 3 2 sgG 6
theorem sg_fits : sgL.length ≤ 8192 := by decide +kernel
theorem sg_backs : ∃ t, pkA 3 3 2 sgG 6 = 0 :: 1 :: t ∧ t.length = 4 := ⟨(pkA 3 3 2 sgG 6).drop 2, by decide +kernel, by decide +kernel⟩
theorem sg_starts : ∃ t, pkS 3 3 2 sgG 6 = 0 :: t ∧ t.length = 5 := ⟨(pkS 3 3 2 sgG 6).drop 1, by decide +kernel, by decide +kernel⟩
theorem sg_pack {A : Option Addr} {R : List Rw} (hR : GrR sgG R) (c : Nat) (V : World) (hG : RdG V V.heap.size A R) :
    Calls Tryz.prog 63 #[.agg #[.slice A 6 c], .agg #[.int .i64 3, .int .i64 3, .int .i64 2]] V (PaP V 6 3 3 2 (sgL.length : Int) (pack sgL).length (pack sgL) 6 (ns (pkA 3 3 2 sgG 6)) 6 (ns (pkS 3 3 2 sgG 6)) 0) :=
  (pack_ok hR 6 (by rw [hR.len]; rfl) 3 3 2 (by omega) (by omega) (by omega) (by omega) A c V hG).mono fun e w' h => by
    unfold PakP at h
    have hs : (pkB 3 3 2 sgG 6).length ≤ 8192 := sg_fits
    rw [if_pos hs] at h
    exact h
theorem sg_write {A : Option Addr} {R : List Rw} (h1 : gs R = sgG.map ns) (h2 : ∀ r ∈ R, r.2.2.length ≤ r.2.1) (c : Nat) (V : World) (hG : RdG V V.heap.size A R) :
    Calls Tryz.prog 30 #[.agg #[.slice A 6 c], .agg #[.int .i64 3, .int .i64 3, .int .i64 2]] V (PwP V 6 3 3 2 (sgL.length : Int) (pack sgL).length (pack sgL) 0) :=
  write_l 6 3 3 2 A c 6 3 3 2 _ _ _ 6 _ 6 _ 0 V (Lib.hid fun W hW => sg_pack ⟨sg_ok, h1, h2⟩ c W (hG.on hW))
theorem sg_told {A : Option Addr} {R : List Rw} (h1 : gs R = sgG.map ns) (h2 : ∀ r ∈ R, r.2.2.length ≤ r.2.1) (c : Nat) (V : World) (hG : RdG V V.heap.size A R) :
    Calls Tryz.prog 32 #[.agg #[.slice A 6 c], .agg #[.int .i64 3, .int .i64 3, .int .i64 2]] V (PtP V 6 (ns (pkA 3 3 2 sgG 6)) 6 (ns (pkS 3 3 2 sgG 6)) 0) :=
  told_l 6 3 3 2 A c 6 3 3 2 (sgL.length : Int) _ (pack sgL) 6 _ 6 _ 0 V (Lib.hid fun W hW => sg_pack ⟨sg_ok, h1, h2⟩ c W (hG.on hW))
theorem sg_read {A : Option Addr} (c : Nat) (V : World) (h : Rd V V.heap.size A (pack sgL)) :
    Calls Tryz.prog 31 #[.agg #[.int .i64 6, .int .i64 3, .int .i64 3, .int .i64 2, .int .i64 (sgL.length : Int), .slice A (pack sgL).length c]] V (PrG V sgG 6) := by
  have hg : sgG.length = 6 := rfl
  have e6 : pkB 3 3 2 sgG sgG.length = sgL := rfl
  rcases read_ways 6 3 3 2 (sgL.length : Int) (pack sgL) _ rfl (pack_lt sgL) A c V h with ⟨er, -, -, -, hno, -⟩ | ⟨g, B', ls', k', a1, a2, a3, b1, b2, b3, b4, hok, a4, a5, hf, hp, HR⟩
  · have hno2 := hno sgG 3 3 2 rfl rfl rfl (by omega) (by omega) (by omega) (by omega) sg_ok (by rw [hg]; rfl) (by rw [e6]) (by rw [e6]; exact sg_fits)
    rw [e6] at hno2
    exact absurd rfl hno2
  · obtain rfl : B' = 3 := by omega
    obtain rfl : ls' = 3 := by omega
    obtain rfl : k' = 2 := by omega
    have hgl : g.length = 6 := by omega
    have e : pkB 3 3 2 g 6 = sgL := by
      rw [hgl] at a5 hp
      have hl : sgL.length = (pkB 3 3 2 g 6).length := by omega
      rw [← unpack_pack (pkB 3 3 2 g 6), ← hp, ← hl, unpack_pack]
    have q1 := rdA_all 3 3 2 (by omega) (by omega) g (gok_rows hok) (by omega)
    have q2 := rdA_all 3 3 2 (by omega) (by omega) sgG (gok_rows sg_ok) (by rw [hg]; omega)
    rw [hgl, e] at q1
    rw [hg] at q2
    have e2 : some (g, sgL.length) = some (sgG, (pkB 3 3 2 sgG 6).length) := by rw [← q1]; exact q2
    have e3 : g = sgG := by injection e2 with e2; injection e2
    subst e3
    rw [hg] at HR
    exact HR.out V (Below.refl _ V)
theorem none_read (c : Nat) (V : World) :
    Calls Tryz.prog 31 #[.agg #[.int .i64 1, .int .i64 3, .int .i64 3, .int .i64 2, .int .i64 0, .slice none 0 c]] V (PrE V 1) := by
  rcases read_ways 1 3 3 2 0 [] 0 rfl (by simp) none c V (Rd.nil _ _ _) with ⟨er, -, h0, -, -, HR⟩ | ⟨g, B', ls', k', a1, a2, a3, b1, b2, b3, b4, hok, a4, a5, hf, hp, HR⟩
  · obtain rfl := h0 (by decide +kernel)
    exact HR.out V (Below.refl _ V)
  · exfalso
    have hgl : g.length = 1 := by omega
    have hb : B' ≠ 0 := by omega
    rw [hgl, pkB_succ] at a5
    simp only [List.length_append, ndB, if_neg hb, gam_length] at a5
    omega
end Go.Proofs.YticdnodlapafoaaGreat
