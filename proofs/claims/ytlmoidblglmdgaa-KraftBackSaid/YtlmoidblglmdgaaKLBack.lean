/- The law KraftBack, way by way and together. -/
import Derived.Test.YtlmoidblglmdgaaKJoinF
import Derived.Deep.RegionHeld3
namespace Go.Proofs.Ytlmoidblglmdgaa
set_option maxRecDepth 100000
set_option linter.unusedVariables false
open Go.RowKit Go.Shelf Go.Sort

/-- The codes of signs, one behind the other. -/
def cat (l : List Nat) (ps : List Nat) : List Bool := ps.flatMap (codOf (words l))
theorem cat_snoc (l ps : List Nat) (s : Nat) : cat l (ps ++ [s]) = cat l ps ++ codOf (words l) s := by simp [cat]
/-- A sign is read from its code. -/
theorem cat_sign (l : List Nat) (h24 : ∀ x ∈ l, x ≤ 24) (hr : tkn l ≤ 16777216) (ps : List Nat) (hps : ∀ p ∈ ps, p < l.length ∧ codOf (words l) p ≠ []) (k : Nat) (hk : k < ps.length) :
    sgA (cat l (ps.take k)).length (sgn ((cat l ps).drop (cat l (ps.take k)).length) (words l)) = (ps[k]?.getD 0, (cat l (ps.take (k + 1))).length, 0) ∧ (cat l (ps.take k)).length < (cat l (ps.take (k + 1))).length ∧ (cat l (ps.take (k + 1))).length ≤ (cat l ps).length := by
  have h := words_ok l h24
  have e1 : ps = ps.take k ++ ps.drop k := (List.take_append_drop k ps).symm
  have e2 : ps.drop k = ps[k]?.getD 0 :: ps.drop (k + 1) := by rw [List.drop_eq_getElem_cons hk, List.getElem?_eq_getElem hk]; rfl
  have e3 : cat l ps = cat l (ps.take k) ++ (codOf (words l) (ps[k]?.getD 0) ++ cat l (ps.drop (k + 1))) := by
    conv => lhs; rw [e1, e2]
    simp [cat]
  have e4 : ps.take (k + 1) = ps.take k ++ [ps[k]?.getD 0] := take_snoc ps k hk
  have hm : ps[k]?.getD 0 ∈ ps := by rw [List.getElem?_eq_getElem hk]; exact List.getElem_mem hk
  obtain ⟨p1, p2⟩ := hps _ hm
  generalize ps[k]?.getD 0 = p at *
  have ep : l[p]? = some l[p] := List.getElem?_eq_getElem p1
  have h0 : l[p] ≠ 0 := fun h0 => p2 (codOf_none h (fun w hw => by rw [ep] at hw; cases hw; exact h0))
  obtain ⟨a, ha⟩ := h.has p _ ep h0
  have hc := codOf_mem h ha
  have hf := sgn_found h hr (left := (cat l ps).drop (cat l (ps.take k)).length) (x := (p, l[p], a)) (by
    rw [e3, List.drop_left, ← hc]
    exact List.prefix_append _ _) (words l) (fun y hy => hy) ha
  have hlen : (codOf (words l) p).length = l[p] := by rw [hc, code_length]
  refine ⟨?_, ?_, ?_⟩
  · rw [hf, e4, cat_snoc, List.length_append, hlen]
    rfl
  · rw [e4, cat_snoc, List.length_append, hlen]; omega
  · rw [e4, cat_snoc, e3]; simp only [List.length_append]; omega

set_option maxHeartbeats 1000000 in
theorem lback_e (A1 : Option Addr) (n1 c1 : Nat) (A2 : Option Addr) (n2 c2 : Nat) (w : World) (k : Int) (hk : k ≠ 0) (hC : Calls Try.prog 18 #[.slice A1 n1 c1] w (CoP w k)) :
    Calls Try.prog 6 #[.slice A1 n1 c1, .slice A2 n2 c2] w fun e w' => e = .returned (.bool true) ∧ Below w.heap.size w w' := by
  have HC := Lib.hid hC; clear hC
  have t0 : (k == 0) = false := by simpa using hk
  go_enter Try.func6, Try.ntmps6
  go_wp2_with fail
  refine HC.out.mono ?_
  rintro e w1 ⟨rfl, b1⟩
  go_wp2_with fail
  refine (kbegun w1).mono ?_
  rintro e w2 ⟨rfl, b2⟩
  have HB2 : Hid (Below w.heap.size w w2) := b1.trans (b2.mono b1.size)
  clear b1 b2
  go_wp2_with fail
  refine (begun_true w2).mono ?_
  rintro e w3 ⟨rfl, b3⟩
  have HB3 : Hid (Below w.heap.size w w3) := HB2.out.trans (b3.mono HB2.out.size)
  clear b3
  go_wp2
  go_ret
  exact ⟨rfl, HB3.out⟩

theorem frz_at {w : World} {W : Nat} {t : TypeId} {cs : Array Value} (h : w.heap[W]? = some (.cells cs t (0, 0))) (i : Nat) : w.frozen? ⟨W, i, none⟩ = false := by simp [World.frozen?, h]
theorem row_ne3 {w : World} {K base n : Nat} {T : TypeId} {cs : Array Value} {v : Value} {xs : List Value} (h : w.ownsRow base 3 1 v n xs) (hK : w.heap[K]? = some (.cells cs T (0, 0))) (ht : T ≠ 3) : ∀ g, v.ownBlock = some g → g ≠ K := by
  rintro g hg rfl
  rcases h.2 with ⟨rfl, _⟩ | ⟨g', cap, cur, rfl, _, hh, _⟩
  · simp [Value.ownBlock] at hg
  · simp only [Value.ownBlock, Option.some.injEq] at hg
    subst hg
    rw [hK] at hh
    simp at hh
    exact ht hh.2
theorem own_lt {w : World} {base : Nat} {e : TypeId} {k n : Nat} {v : Value} {xs : List Value} (h : w.ownsRow base e k v n xs) : ∀ g, v.ownBlock = some g → g < w.heap.size := by
  intro g hg
  rcases h.2 with ⟨rfl, _⟩ | ⟨g', cap, cur, rfl, _, hh, _⟩
  · simp [Value.ownBlock] at hg
  · simp only [Value.ownBlock, Option.some.injEq] at hg
    subst hg
    exact (Array.getElem?_eq_some_iff.1 hh).1
theorem own_keep2 {w w' : World} {base : Nat} {e : TypeId} {k n : Nat} {v : Value} {xs : List Value} (h : w.ownsRow base e k v n xs) (hk : ∀ j, v.ownBlock = some j → j < w.heap.size → w'.heap[j]? = w.heap[j]?) : w'.ownsRow base e k v n xs := by
  refine ⟨h.1, ?_⟩
  rcases h.2 with h | ⟨g, cap, cur, rfl, h2, h3, h4⟩
  · exact .inl h
  · exact .inr ⟨g, cap, cur, rfl, h2, (hk g rfl (Array.getElem?_eq_some_iff.1 h3).1).trans h3, h4⟩
/-- At each round's head: the first signs are put. -/
def Ba1 (l : List Nat) (m Ba : Nat) (w3 : World) (v p : Value) (wr : World) : Prop :=
  ∃ (i : Nat) (ps : List Nat) (Aa : Option Addr) (ca : Nat), i ≤ m ∧ i ≤ 100 ∧ p = .int .i64 (i : Int) ∧ ps.length ≤ i ∧ (∀ p ∈ ps, p < l.length ∧ codOf (words l) p ≠ []) ∧ (cat l ps).length ≤ 24 * i ∧
    wr.ownsRow w3.heap.size 3 1 v ps.length (zc (ns ps)) ∧
    wr.heap[Ba]? = some (.cells #[.int .i64 ((cat l ps).length : Int), .slice Aa (pack (cat l ps)).length ca] 26 (0, 0)) ∧ Rd wr wr.heap.size Aa (pack (cat l ps)) ∧ Below w3.heap.size w3 wr

set_option maxHeartbeats 4000000 in
theorem lback_ok (l : List Nat) (n1 : Nat) (hn : l.length = n1) (h64 : n1 ≤ 64) (h24 : ∀ x ∈ l, x ≤ 24) (hr : tkn l ≤ 16777216) (A1 : Option Addr) (c1 : Nat) (xs : List Int) (n2 : Nat) (hm : xs.length = n2) (hm2 : n2 ≤ 9223372036854775807) (A2 : Option Addr) (c2 : Nat) (w : World) (h1 : RdV w w.heap.size A1 (zc (ns l))) (h2 : RdV w w.heap.size A2 (zc xs)) :
    Calls Try.prog 6 #[.slice A1 n1 c1, .slice A2 n2 c2] w fun e w' => e = .returned (.bool true) ∧ Below w.heap.size w w' := by
  obtain ⟨i0, hi, hz0, hz1, hz2⟩ := info_parts info3i
  have HC : Hid (Calls Try.prog 18 #[.slice A1 n1 c1] w (GotC w (codes l))) := codes_ok l n1 hn h64 h24 hr A1 c1 w h1
  have HSg : Hid (∀ V, Below w.heap.size w V → ∀ (lb : List Bool), lb.length ≤ 8192 → ∀ (B : Option Addr) (c5 : Nat), Rd V V.heap.size B (pack lb) → ∀ (p : Nat), p ≤ lb.length → ∀ (s to : Nat), sgA p (sgn (lb.drop p) (words l)) = (s, to, 0) →
      Calls Try.prog 20 #[.slice A1 n1 c1, .agg #[.int .i64 (lb.length : Int), .slice B (pack lb).length c5], .int .i64 (p : Int)] V (SgP V s to 0)) := fun V hV lb hlb B c5 hB p hp s to hres =>
    sign_ok l n1 hn h64 h24 hr A1 c1 V (h1.on hV) lb hlb B c5 hB p hp s to 0 hres
  have HX := Lib.hid h2; have HM := Lib.hid hm
  have HCs := Lib.hid (cat_sign l h24 hr)
  have HN := Lib.hid hn
  have HCL : Hid ((codes l).length = n1) := by show _ = _; rw [codes_length, hn]
  have HLen : Hid (∀ s, s < n1 → (codOf (words l) s).length ≤ 24) := by
    intro s hs
    rw [codOf_len (words_ok l h24) (by omega)]
    exact h24 _ (at_mem l s (by omega))
  clear h1 h2 hm hn hr h24
  go_enter Try.func6, Try.ntmps6
  go_wp2_with fail
  refine HC.out.mono ?_
  rintro e w1 ⟨Ac, cc, bs, rfl, hbs, rr, b1⟩
  rw [HCL.out]
  have HRR := Lib.hid rr; have HBs := Lib.hid hbs; have HB1 := Lib.hid b1
  clear rr hbs b1
  go_wp2_with fail
  refine (kbegun w1).mono ?_
  rintro e w2 ⟨rfl, b2⟩
  have hk2 : Below w1.heap.size w1 w2 := b2
  clear b2
  go_wp2_with fail
  refine (begun_true w2).mono ?_
  rintro e w3 ⟨rfl, b3⟩
  have HK3 : Hid (Below w1.heap.size w1 w3) := hk2.trans (b3.mono hk2.size)
  have HB3 : Hid (Below w.heap.size w w3) := HB1.out.trans (HK3.out.mono HB1.out.size)
  have HR3 := Lib.hid (HRR.out.on HK3.out)
  clear b3 hk2 HRR
  have HCell : Hid (∀ s, s < n1 → ∃ y : Bx, (bs.map rx)[s]? = some (rx y) ∧ y.1 = codOf (words l) s) := by
    intro i hi
    have e1 : (bs.map (fun x : Bx => x.1))[i]? = some (codOf (words l) i) := by
      rw [HBs.out]
      have := codes_get l (show i < l.length by rw [HN.out]; exact hi)
      rw [List.getElem?_eq_getElem (by rw [HCL.out]; exact hi)] at this ⊢
      exact congrArg some this
    rw [List.getElem?_map] at e1
    obtain ⟨y, hy, hy2⟩ := Option.map_eq_some_iff.1 e1
    exact ⟨y, by rw [List.getElem?_map, hy]; rfl, hy2⟩
  go_wp2
  go_loopw [8, 9] (fun v p wr => Ba1 l n2 w3.heap.size w3 v p wr) (fun _ p _ => n2 - (intOf p).toNat)
  case atStart => exact ⟨0, [], none, 0, Nat.zero_le _, Nat.zero_le _, rfl, Nat.le_refl _, by simp, by simp [cat], ⟨rfl, .inl ⟨rfl, rfl⟩⟩, (by have e := World.alloc_heap_new w3 (.cells #[.int .i64 0, .slice none 0 0] 26); simpa [cat, pack_nil] using e), .inl (by simp [cat, pack_nil]), one_below w3 _⟩
  case round =>
    obtain ⟨i, ps, Aa, ca, him, hi100, rfl, hpl, hps, hcl, hrow, hbox, hrd, hbel⟩ := hrel
    have HRow := Lib.hid hrow; have HBox := Lib.hid hbox; have HRd := Lib.hid hrd; have HPs := Lib.hid hps; have HBel := Lib.hid hbel
    have hrow0 : True := trivial
    clear hrow hbox hrd hps
    by_cases hlt : i < n2
    · by_cases h100 : i < 100
      · have hix : i < xs.length := by rw [HM.out]; exact hlt
        obtain ⟨bx, ox, rfl, hbx, kx⟩ := ((HX.out.on HB3.out).below hbel hbel.size).at_ (zc_get xs i hix)
        generalize xs[i]?.getD 0 = s at *
        clear hbel hix
        have u0 : decide ((i : Int) < 100) = true := by simp; omega
        by_cases s0 : s < 0
        · have t0 : decide ((0 : Int) ≤ s) = false := by simp; omega
          clear hrow0
          go_wp2
          go_roundw
          case rel => exact ⟨i + 1, ps, Aa, ca, by omega, by omega, by go_num, by omega, HPs.out, by omega, HRow.out, HBox.out, HRd.out, HBel.out⟩
          case measure => simp [intOf]; omega

        by_cases s1 : (n1 : Int) ≤ s
        · have t0 : decide ((0 : Int) ≤ s) = true := by simp; omega
          have t1 : decide (s < (n1 : Int)) = false := by simp; omega
          clear hrow0
          go_wp2
          go_roundw
          case rel => exact ⟨i + 1, ps, Aa, ca, by omega, by omega, by go_num, by omega, HPs.out, by omega, HRow.out, HBox.out, HRd.out, HBel.out⟩
          case measure => simp [intOf]; omega

        obtain ⟨s, rfl⟩ := Int.eq_ofNat_of_zero_le (show 0 ≤ s by omega)
        have hsn : s < n1 := by omega
        obtain ⟨y, hy, ey⟩ := HCell.out s hsn
        obtain ⟨b, off, rfl, hb, k0, k1, k2⟩ := (HR3.out.below HBel.out HBel.out.size).at_ hy
        have hC24 := HLen.out s hsn
        obtain ⟨yC, As, cs⟩ := y
        simp only [rx] at k0 k1 k2 ey
        have t0 : decide ((0 : Int) ≤ (s : Int)) = true := by simp
        have t1 : decide ((s : Int) < (n1 : Int)) = true := by simp; omega
        rw [← ey] at hC24
        by_cases hC0 : yC.length = 0
        · have k0' : wr.cell? ⟨b, off + s * 2, none⟩ = some (.int .i64 0) := by rw [k0, hC0]; rfl
          clear k0 k1 k2
          clear hrow0
          go_wp2
          go_roundw
          case rel => exact ⟨i + 1, ps, Aa, ca, by omega, by omega, by go_num, by omega, HPs.out, by omega, HRow.out, HBox.out, HRd.out, HBel.out⟩
          case measure => simp [intOf]; omega

        have tpos : decide ((0 : Int) < (yC.length : Int)) = true := by simp; omega
        have hpI : (0 : Int) < (yC.length : Int) := by omega
        have hps' : ∀ p ∈ ps ++ [s], p < l.length ∧ codOf (words l) p ≠ [] := by
          intro p hp
          rcases List.mem_append.1 hp with hp | hp
          · exact HPs.out p hp
          · obtain rfl : p = s := by simpa using hp
            refine ⟨by rw [HN.out]; exact hsn, fun e => ?_⟩
            rw [← ey] at e
            exact hC0 (by rw [e]; rfl)
        have HPs' := Lib.hid hps'
        have hcat := cat_snoc l ps s
        rw [← ey] at hcat
        have HCat := Lib.hid hcat
        have hjl : (cat l ps).length + yC.length ≤ 8192 := by omega
        have HJ : Hid (∀ V, Below wr.heap.size wr V → Calls Try.prog 30 #[.agg #[.int .i64 ((cat l ps).length : Int), .slice Aa (pack (cat l ps)).length ca], .agg #[.int .i64 (yC.length : Int), .slice As (pack yC).length cs]] V (fun e w' => ∃ (A5 : Option Addr) (c5 : Nat), e = .returned (.tuple #[.agg #[.int .i64 ((cat l (ps ++ [s])).length : Int), .slice A5 (pack (cat l (ps ++ [s]))).length c5], .int .i64 0]) ∧ Rd w' w'.heap.size A5 (pack (cat l (ps ++ [s]))) ∧ Below V.heap.size V w' ∧ ∀ b5 o5, A5 = some ⟨b5, o5, none⟩ → wr.heap.size ≤ b5)) := fun V hV =>
          (join_f (cat l ps) yC (cat l (ps ++ [s])) (by omega) (by omega) Aa As ca cs V (HRd.out.on hV) (k2.below hV hV.size) hcat hjl).mono fun e w' ⟨A5, c5, q1, q2, q3, q4⟩ => ⟨A5, c5, q1, q2, q3, fun b5 o5 e5 => by
            subst e5
            exact Nat.le_trans hV.size (q4 b5 rfl)⟩
        have hnl : (cat l (ps ++ [s])).length ≤ 24 * (i + 1) := by rw [hcat, List.length_append]; omega
        have HNl := Lib.hid hnl
        have hBaw : w3.heap.size < wr.heap.size := (Array.getElem?_eq_some_iff.1 HBox.out).1
        have hbw : b < wr.heap.size := hb
        clear hps' hcat hnl ey hy k2 hjl hC24 hC0
        have HC2 : Hid (wr.cell? ⟨b, off + s * 2, none⟩ = some (.int .i64 (yC.length : Int)) ∧ wr.cell? ⟨b, off + s * 2 + 1, none⟩ = some (.slice As (pack yC).length cs)) := ⟨k0, k1⟩
        generalize hLl : (cat l ps).length = Ll at *
        generalize hNL : (pack (cat l ps)).length = NL at *
        generalize hlc : yC.length = lc at *
        generalize hNC : (pack yC).length = NC at *
        clear hLl hNL hlc hNC
        have HK : Hid (∀ w' : World, Below wr.heap.size wr w' → w'.cell? ⟨w3.heap.size, 0, none⟩ = some (.int .i64 (Ll : Int)) ∧ w'.cell? ⟨w3.heap.size, 1, none⟩ = some (.slice Aa NL ca) ∧ w'.cell? ⟨b, off + s * 2, none⟩ = some (.int .i64 (lc : Int)) ∧ w'.cell? ⟨b, off + s * 2 + 1, none⟩ = some (.slice As NC cs)) := by
          intro w' hw
          have e0 := (hw.block w3.heap.size hBaw).trans HBox.out
          exact ⟨(cell_at e0 _).trans rfl, (cell_at e0 _).trans rfl, (World.cell?_of_block (a := ⟨b, off + s * 2, none⟩) (hw.block b hbw)).trans HC2.out.1, (World.cell?_of_block (a := ⟨b, off + s * 2 + 1, none⟩) (hw.block b hbw)).trans HC2.out.2⟩
        generalize hL2 : (cat l (ps ++ [s])).length = L2 at *
        generalize hB2 : pack (cat l (ps ++ [s])) = bs2 at *
        have HL2 := Lib.hid hL2; have HB2 := Lib.hid hB2
        clear hL2 hB2
        go_wp2_with fail
        go_region_held3 (fun w' => w'.cell? ⟨w3.heap.size, 0, none⟩ = some (.int .i64 (Ll : Int)) ∧ w'.cell? ⟨w3.heap.size, 1, none⟩ = some (.slice Aa NL ca) ∧ w'.cell? ⟨b, off + s * 2, none⟩ = some (.int .i64 (lc : Int)) ∧ w'.cell? ⟨b, off + s * 2 + 1, none⟩ = some (.slice As NC cs))
          ((refine HK.out _ ?_; first | exact hk1.out | exact (hk1.out.setCell (Nat.le_refl _) _).setCell (Nat.le_refl _) _ | exact hk1.out.trans ((one_below _ _).mono hk1.out.size) | exact (hk1.out.trans ((one_below _ _).mono hk1.out.size)).setCell (by have := hk1.out.size; omega) _ | exact (one_below _ _).drew | exact (Below.refl _ _).drew | exact ((Below.refl _ _).drew).alloc (Nat.le_refl _) _))
          (first
            | (go_at_call 30; refine (HJ.out wr.drew (Below.refl _ wr).drew).mono ?_; rintro e w5 ⟨A5, c5, rfl, r5, B5, fr5⟩; have hfr := Lib.hid fr5; clear fr5; have hk1 : Hid (Below wr.heap.size wr w5) := ((Below.refl _ wr).drew).trans B5; have hr5 := Lib.hid r5; clear B5 r5)
            | (go_at_call 30; refine (HJ.out _ (one_below wr (.cells #[.int .i64 0, .slice none 0 0] 26)).drew).mono ?_; rintro e w5 ⟨A5, c5, rfl, r5, B5, fr5⟩; have hfr := Lib.hid fr5; clear fr5; have hk1 : Hid (Below wr.heap.size wr w5) := (one_below wr (.cells #[.int .i64 0, .slice none 0 0] 26)).drew.trans (B5.mono (by simp)); have n9 := World.alloc_heap_new wr (.cells #[.int .i64 0, .slice none 0 0] 26); have k9 : w5.heap[wr.heap.size]? = some (.cells #[.int .i64 0, .slice none 0 0] 26 (0, 0)) := (B5.block wr.heap.size (by simp)).trans n9; have x0 : w5.cell? ⟨wr.heap.size, 0, none⟩ = some (.int .i64 0) := (cell_at k9 0).trans rfl; have x1 : w5.cell? ⟨wr.heap.size, 1, none⟩ = some (.slice none 0 0) := (cell_at k9 1).trans rfl; have x2 : w5.frozen? ⟨wr.heap.size, 0, none⟩ = false := frz_at k9 0; have x3 : w5.frozen? ⟨wr.heap.size, 1, none⟩ = false := frz_at k9 1; have hk9 := Lib.hid k9; have hr5 := Lib.hid r5; clear B5 r5 n9 k9))
        · have HB7 : Hid (Below wr.heap.size wr (w5.alloc (.cells #[.int .i64 (L2 : Int), .slice A5 bs2.length c5] 26))) := hk1.out.trans ((one_below w5 _).mono hk1.out.size)
          have HK7 : Hid ((w5.alloc (.cells #[.int .i64 (L2 : Int), .slice A5 bs2.length c5] 26)).heap[w5.heap.size]? = some (.cells #[.int .i64 (L2 : Int), .slice A5 bs2.length c5] 26 (0, 0))) := World.alloc_heap_new w5 _
          have HR7 : Hid (Rd (w5.alloc (.cells #[.int .i64 (L2 : Int), .slice A5 bs2.length c5] 26)) (w5.alloc (.cells #[.int .i64 (L2 : Int), .slice A5 bs2.length c5] 26)).heap.size A5 bs2) := hr5.out.on (one_below w5 _)
          have hKge : wr.heap.size ≤ w5.heap.size := hk1.out.size
          clear hk1 hr5 k0 k1
          generalize w5.alloc (.cells #[.int .i64 (L2 : Int), .slice A5 bs2.length c5] 26) = w7 at *
          generalize w5.heap.size = K at *
          have hKne : w3.heap.size ≠ K := by omega
          have hb7 := (HB7.out.block w3.heap.size hBaw).trans HBox.out
          have p0 : w7.cell? ⟨K, 0, none⟩ = some (.int .i64 (L2 : Int)) := (cell_at HK7.out _).trans rfl
          have p1 : w7.cell? ⟨K, 1, none⟩ = some (.slice A5 bs2.length c5) := (cell_at HK7.out _).trans rfl
          have q0 : w7.cell? ⟨w3.heap.size, 0, none⟩ = some (.int .i64 (Ll : Int)) := (cell_at hb7 _).trans rfl
          have q1 : w7.cell? ⟨w3.heap.size, 1, none⟩ = some (.slice Aa NL ca) := (cell_at hb7 _).trans rfl
          have f0 := frz_at hb7 0
          have f1 := frz_at hb7 1
          have HBx8 : Hid (((w7.setCell ⟨w3.heap.size, 0, none⟩ (.int .i64 (L2 : Int))).setCell ⟨w3.heap.size, 1, none⟩ (.slice A5 bs2.length c5)).heap[w3.heap.size]? = some (.cells #[.int .i64 (L2 : Int), .slice A5 bs2.length c5] 26 (0, 0))) := by
            show _ = _
            rw [heap_set_same _ _ _ _ _ _ (heap_set_same _ _ _ _ _ _ hb7)]
            simp
          have HRd8 : Hid (Rd ((w7.setCell ⟨w3.heap.size, 0, none⟩ (.int .i64 (L2 : Int))).setCell ⟨w3.heap.size, 1, none⟩ (.slice A5 bs2.length c5)) w7.heap.size A5 bs2) := by
            have e1 : (w7.setCell ⟨w3.heap.size, 0, none⟩ (.int .i64 (L2 : Int))).heap[w3.heap.size]? = some (.cells #[.int .i64 (L2 : Int), .slice Aa NL ca] 26 (0, 0)) := by
              rw [heap_set_same _ _ _ _ _ _ hb7]; simp
            exact (HR7.out.setK (i := 0) (.int .i64 (L2 : Int)) hb7).setK (i := 1) (.slice A5 bs2.length c5) e1
          have hsz : ((w7.setCell ⟨w3.heap.size, 0, none⟩ (.int .i64 (L2 : Int))).setCell ⟨w3.heap.size, 1, none⟩ (.slice A5 bs2.length c5)).heap.size = w7.heap.size := by simp [World.setCell]
          have HSz := Lib.hid hsz
          have HB8 : Hid (Below w3.heap.size w3 ((w7.setCell ⟨w3.heap.size, 0, none⟩ (.int .i64 (L2 : Int))).setCell ⟨w3.heap.size, 1, none⟩ (.slice A5 bs2.length c5))) := ((HBel.out.trans (HB7.out.mono (by omega))).setCell (Nat.le_refl _) _).setCell (Nat.le_refl _) _
          have hro8 := own_keep2 (w' := (w7.setCell ⟨w3.heap.size, 0, none⟩ (.int .i64 (L2 : Int))).setCell ⟨w3.heap.size, 1, none⟩ (.slice A5 bs2.length c5)) HRow.out (fun j hj hlt => by
            have := row_ne3 HRow.out HBox.out (by decide) j hj
            rw [Below.heap_setCell _ _ _ _ this, Below.heap_setCell _ _ _ _ this]
            exact HB7.out.block j hlt)
          have hnews : ∀ j u, ([.int .i64 (s : Int)] : List Value)[j]? = some u → (((w7.setCell ⟨w3.heap.size, 0, none⟩ (.int .i64 (L2 : Int))).setCell ⟨w3.heap.size, 1, none⟩ (.slice A5 bs2.length c5)).alloc (.cells #[.int .i64 (s : Int)] 3)).cell? ((⟨w7.heap.size, 0, none⟩ : Addr).add j) = some u := by
            rw [← hsz]
            exact news_row _ [.int .i64 (s : Int)] _
          have hw37 : w3.heap.size ≤ w7.heap.size := by have := HB8.out.size; rw [hsz] at this; exact this
          clear hsz hb7
          go_wp2_with (at_builtin; refine wpList_append_own _ rfl _ _ 22 rfl w3.heap.size 3 i0 (.int .i64 0) 1 8 Try.underlying22 hi hz0 hz1 hz2 rfl (by decide) _ _ _ rfl (hro8.alloc _) ⟨w7.heap.size, 0, none⟩ 1 1 [.int .i64 (s : Int)] rfl rfl hnews (by simp [Value.oneCell']) (by unfold maxLen; omega) (by omega) (by rw [World.size_alloc, HSz.out]; omega) ?_; intro v' w9 hown' hgrow _)
          have HO9 := Lib.hid hown'
          have hal := (hro8.alloc (.cells #[.int .i64 (s : Int)] 3))
          have HB9 : Hid (Below w3.heap.size w3 w9) := HB8.out.trans (((Below.refl w3.heap.size _).alloc HB8.out.size _).trans (grown_low hgrow hal (by rw [World.size_alloc, HSz.out]; omega)))
          have hw39 : w3.heap.size < w7.heap.size := by have := HB7.out.size; omega
          have hbx9 : w9.heap[w3.heap.size]? = some (.cells #[.int .i64 (L2 : Int), .slice A5 bs2.length c5] 26 (0, 0)) := by
            have ne := row_ne3 HRow.out HBox.out (by decide)
            refine (hgrow.block w3.heap.size (by rw [World.size_alloc, HSz.out]; omega) (fun e => ne _ e.symm rfl)).trans ((Below.heap_alloc _ _ _ (by rw [HSz.out]; omega)).trans HBx8.out)
          have hvlt : ∀ g, Value.ownBlock _ = some g → g < wr.heap.size := own_lt HRow.out
          have hne5 : ∀ b5 o5, A5 = some ⟨b5, o5, none⟩ → ∀ g, Value.ownBlock _ = some g → g ≠ b5 := fun b5 o5 e5 g hg => by
            have h1 := hfr.out b5 o5 e5
            have h2 := own_lt HRow.out g hg
            omega
          have hrd9 : Rd w9 w9.heap.size A5 bs2 := by
            have hs9 : w7.heap.size ≤ w9.heap.size := by have := hgrow.size; rw [World.size_alloc, HSz.out] at this; omega
            rcases HRd8.out with h | ⟨b5, o5, e5, hb5, hc5⟩
            · exact .inl h
            · refine .inr ⟨b5, o5, e5, by omega, fun j hj => ?_⟩
              exact (World.cell?_of_block (a := ⟨b5, o5 + j, none⟩) ((hgrow.block b5 (by rw [World.size_alloc, HSz.out]; omega) (fun e => hne5 b5 o5 e5 b5 e.symm rfl)).trans (Below.heap_alloc _ _ _ (by rw [HSz.out]; omega)))).trans (hc5 j hj)
          have HX9 := Lib.hid hbx9; have HRd9 := Lib.hid hrd9
          clear hbx9 hrd9 hgrow hown' hvlt hne5 hal
          go_roundw
          case rel => exact ⟨i + 1, ps ++ [s], A5, c5, by omega, by omega, by go_num, by rw [List.length_append]; simp; omega, HPs'.out, by rw [HL2.out]; exact HNl.out, by rw [List.length_append, ns_snoc]; exact HO9.out, by rw [HL2.out, HB2.out]; exact HX9.out, by rw [HB2.out]; exact HRd9.out, HB9.out⟩
          case measure => simp [intOf]; omega
        · have HB7 : Hid (Below wr.heap.size wr ((w5.setCell ⟨wr.heap.size, 0, none⟩ (.int .i64 (L2 : Int))).setCell ⟨wr.heap.size, 1, none⟩ (.slice A5 bs2.length c5))) := (hk1.out.setCell (Nat.le_refl _) _).setCell (Nat.le_refl _) _
          have e1 : (w5.setCell ⟨wr.heap.size, 0, none⟩ (.int .i64 (L2 : Int))).heap[wr.heap.size]? = some (.cells #[.int .i64 (L2 : Int), .slice none 0 0] 26 (0, 0)) := by
            rw [heap_set_same _ _ _ _ _ _ hk9.out]; simp
          have HK7 : Hid (((w5.setCell ⟨wr.heap.size, 0, none⟩ (.int .i64 (L2 : Int))).setCell ⟨wr.heap.size, 1, none⟩ (.slice A5 bs2.length c5)).heap[wr.heap.size]? = some (.cells #[.int .i64 (L2 : Int), .slice A5 bs2.length c5] 26 (0, 0))) := by
            show _ = _
            rw [heap_set_same _ _ _ _ _ _ e1]; simp
          have HR7 : Hid (Rd ((w5.setCell ⟨wr.heap.size, 0, none⟩ (.int .i64 (L2 : Int))).setCell ⟨wr.heap.size, 1, none⟩ (.slice A5 bs2.length c5)) ((w5.setCell ⟨wr.heap.size, 0, none⟩ (.int .i64 (L2 : Int))).setCell ⟨wr.heap.size, 1, none⟩ (.slice A5 bs2.length c5)).heap.size A5 bs2) := by
            have := (hr5.out.setK (i := 0) (.int .i64 (L2 : Int)) hk9.out).setK (i := 1) (.slice A5 bs2.length c5) e1
            have hz : ((w5.setCell ⟨wr.heap.size, 0, none⟩ (.int .i64 (L2 : Int))).setCell ⟨wr.heap.size, 1, none⟩ (.slice A5 bs2.length c5)).heap.size = w5.heap.size := by simp [World.setCell]
            show Rd _ _ _ _
            rw [hz]; exact this
          have hKge : wr.heap.size ≤ wr.heap.size := Nat.le_refl _
          clear hk1 hr5 k0 k1 x0 x1 x2 x3 hk9 e1
          generalize (w5.setCell ⟨wr.heap.size, 0, none⟩ (.int .i64 (L2 : Int))).setCell ⟨wr.heap.size, 1, none⟩ (.slice A5 bs2.length c5) = w7 at *
          have hKne : w3.heap.size ≠ wr.heap.size := by omega
          have hb7 := (HB7.out.block w3.heap.size hBaw).trans HBox.out
          have p0 : w7.cell? ⟨wr.heap.size, 0, none⟩ = some (.int .i64 (L2 : Int)) := (cell_at HK7.out _).trans rfl
          have p1 : w7.cell? ⟨wr.heap.size, 1, none⟩ = some (.slice A5 bs2.length c5) := (cell_at HK7.out _).trans rfl
          have q0 : w7.cell? ⟨w3.heap.size, 0, none⟩ = some (.int .i64 (Ll : Int)) := (cell_at hb7 _).trans rfl
          have q1 : w7.cell? ⟨w3.heap.size, 1, none⟩ = some (.slice Aa NL ca) := (cell_at hb7 _).trans rfl
          have f0 := frz_at hb7 0
          have f1 := frz_at hb7 1
          have HBx8 : Hid (((w7.setCell ⟨w3.heap.size, 0, none⟩ (.int .i64 (L2 : Int))).setCell ⟨w3.heap.size, 1, none⟩ (.slice A5 bs2.length c5)).heap[w3.heap.size]? = some (.cells #[.int .i64 (L2 : Int), .slice A5 bs2.length c5] 26 (0, 0))) := by
            show _ = _
            rw [heap_set_same _ _ _ _ _ _ (heap_set_same _ _ _ _ _ _ hb7)]
            simp
          have HRd8 : Hid (Rd ((w7.setCell ⟨w3.heap.size, 0, none⟩ (.int .i64 (L2 : Int))).setCell ⟨w3.heap.size, 1, none⟩ (.slice A5 bs2.length c5)) w7.heap.size A5 bs2) := by
            have e1 : (w7.setCell ⟨w3.heap.size, 0, none⟩ (.int .i64 (L2 : Int))).heap[w3.heap.size]? = some (.cells #[.int .i64 (L2 : Int), .slice Aa NL ca] 26 (0, 0)) := by
              rw [heap_set_same _ _ _ _ _ _ hb7]; simp
            exact (HR7.out.setK (i := 0) (.int .i64 (L2 : Int)) hb7).setK (i := 1) (.slice A5 bs2.length c5) e1
          have hsz : ((w7.setCell ⟨w3.heap.size, 0, none⟩ (.int .i64 (L2 : Int))).setCell ⟨w3.heap.size, 1, none⟩ (.slice A5 bs2.length c5)).heap.size = w7.heap.size := by simp [World.setCell]
          have HSz := Lib.hid hsz
          have HB8 : Hid (Below w3.heap.size w3 ((w7.setCell ⟨w3.heap.size, 0, none⟩ (.int .i64 (L2 : Int))).setCell ⟨w3.heap.size, 1, none⟩ (.slice A5 bs2.length c5))) := ((HBel.out.trans (HB7.out.mono (by omega))).setCell (Nat.le_refl _) _).setCell (Nat.le_refl _) _
          have hro8 := own_keep2 (w' := (w7.setCell ⟨w3.heap.size, 0, none⟩ (.int .i64 (L2 : Int))).setCell ⟨w3.heap.size, 1, none⟩ (.slice A5 bs2.length c5)) HRow.out (fun j hj hlt => by
            have := row_ne3 HRow.out HBox.out (by decide) j hj
            rw [Below.heap_setCell _ _ _ _ this, Below.heap_setCell _ _ _ _ this]
            exact HB7.out.block j hlt)
          have hnews : ∀ j u, ([.int .i64 (s : Int)] : List Value)[j]? = some u → (((w7.setCell ⟨w3.heap.size, 0, none⟩ (.int .i64 (L2 : Int))).setCell ⟨w3.heap.size, 1, none⟩ (.slice A5 bs2.length c5)).alloc (.cells #[.int .i64 (s : Int)] 3)).cell? ((⟨w7.heap.size, 0, none⟩ : Addr).add j) = some u := by
            rw [← hsz]
            exact news_row _ [.int .i64 (s : Int)] _
          have hw37 : w3.heap.size ≤ w7.heap.size := by have := HB8.out.size; rw [hsz] at this; exact this
          clear hsz hb7
          go_wp2_with (at_builtin; refine wpList_append_own _ rfl _ _ 22 rfl w3.heap.size 3 i0 (.int .i64 0) 1 8 Try.underlying22 hi hz0 hz1 hz2 rfl (by decide) _ _ _ rfl (hro8.alloc _) ⟨w7.heap.size, 0, none⟩ 1 1 [.int .i64 (s : Int)] rfl rfl hnews (by simp [Value.oneCell']) (by unfold maxLen; omega) (by omega) (by rw [World.size_alloc, HSz.out]; omega) ?_; intro v' w9 hown' hgrow _)
          have HO9 := Lib.hid hown'
          have hal := (hro8.alloc (.cells #[.int .i64 (s : Int)] 3))
          have HB9 : Hid (Below w3.heap.size w3 w9) := HB8.out.trans (((Below.refl w3.heap.size _).alloc HB8.out.size _).trans (grown_low hgrow hal (by rw [World.size_alloc, HSz.out]; omega)))
          have hw39 : w3.heap.size < w7.heap.size := by have := HB7.out.size; omega
          have hbx9 : w9.heap[w3.heap.size]? = some (.cells #[.int .i64 (L2 : Int), .slice A5 bs2.length c5] 26 (0, 0)) := by
            have ne := row_ne3 HRow.out HBox.out (by decide)
            refine (hgrow.block w3.heap.size (by rw [World.size_alloc, HSz.out]; omega) (fun e => ne _ e.symm rfl)).trans ((Below.heap_alloc _ _ _ (by rw [HSz.out]; omega)).trans HBx8.out)
          have hvlt : ∀ g, Value.ownBlock _ = some g → g < wr.heap.size := own_lt HRow.out
          have hne5 : ∀ b5 o5, A5 = some ⟨b5, o5, none⟩ → ∀ g, Value.ownBlock _ = some g → g ≠ b5 := fun b5 o5 e5 g hg => by
            have h1 := hfr.out b5 o5 e5
            have h2 := own_lt HRow.out g hg
            omega
          have hrd9 : Rd w9 w9.heap.size A5 bs2 := by
            have hs9 : w7.heap.size ≤ w9.heap.size := by have := hgrow.size; rw [World.size_alloc, HSz.out] at this; omega
            rcases HRd8.out with h | ⟨b5, o5, e5, hb5, hc5⟩
            · exact .inl h
            · refine .inr ⟨b5, o5, e5, by omega, fun j hj => ?_⟩
              exact (World.cell?_of_block (a := ⟨b5, o5 + j, none⟩) ((hgrow.block b5 (by rw [World.size_alloc, HSz.out]; omega) (fun e => hne5 b5 o5 e5 b5 e.symm rfl)).trans (Below.heap_alloc _ _ _ (by rw [HSz.out]; omega)))).trans (hc5 j hj)
          have HX9 := Lib.hid hbx9; have HRd9 := Lib.hid hrd9
          clear hbx9 hrd9 hgrow hown' hvlt hne5 hal
          go_roundw
          case rel => exact ⟨i + 1, ps ++ [s], A5, c5, by omega, by omega, by go_num, by rw [List.length_append]; simp; omega, HPs'.out, by rw [HL2.out]; exact HNl.out, by rw [List.length_append, ns_snoc]; exact HO9.out, by rw [HL2.out, HB2.out]; exact HX9.out, by rw [HB2.out]; exact HRd9.out, HB9.out⟩
          case measure => simp [intOf]; omega
      · have u0 : decide ((i : Int) < 100) = false := by simp; omega
        clear hbel
        clear HCell HBs HCL HLen
        obtain ⟨w6, hw6⟩ : ∃ x : World, x = wr := ⟨wr, rfl⟩
        subst hw6
        obtain ⟨Ap, cp, rfl, hrp⟩ := own_rdi HRow.out
        have HRp := Lib.hid hrp
        have HAll : Hid ((cat l ps).length ≤ 8192) := by show _ ≤ _; omega
        have HSi : Hid (∀ k, k < ps.length → ∀ V, Below w6.heap.size w6 V → Calls Try.prog 20 #[.slice A1 n1 c1, .agg #[.int .i64 ((cat l ps).length : Int), .slice Aa (pack (cat l ps)).length ca], .int .i64 ((cat l (ps.take k)).length : Int)] V (SgP V (ps[k]?.getD 0) (cat l (ps.take (k + 1))).length 0)) := by
          intro k hk V hV
          obtain ⟨q1, q2, q3⟩ := HCs.out ps HPs.out k hk
          exact HSg.out V (HB3.out.trans ((HBel.out.trans (hV.mono HBel.out.size)).mono HB3.out.size)) (cat l ps) HAll.out Aa ca (HRd.out.on hV) _ (by omega) _ _ q1
        have HMono : Hid (∀ k, k < ps.length → (cat l (ps.take k)).length < (cat l (ps.take (k + 1))).length) := fun k hk => (HCs.out ps HPs.out k hk).2.1
        have hBaw : w3.heap.size < w6.heap.size := (Array.getElem?_eq_some_iff.1 HBox.out).1
        have HEnd : Hid ((cat l (ps.take ps.length)).length = (cat l ps).length) := by show _ = _; rw [List.take_length]
        have HFin : Hid (∀ V, Below w6.heap.size w6 V → V.cell? ⟨w3.heap.size, 0, none⟩ = some (.int .i64 ((cat l ps).length : Int)) ∧ V.cell? ⟨w3.heap.size, 1, none⟩ = some (.slice Aa (pack (cat l ps)).length ca)) := fun V hV => by
          have k0 := (hV.block w3.heap.size hBaw).trans HBox.out
          exact ⟨(cell_at k0 _).trans rfl, (cell_at k0 _).trans rfl⟩
        have HZ : Hid ((0 : Int) = ((cat l (ps.take 0)).length : Int)) := by show _ = _; simp [cat]
        have HB9 : Hid (Below w.heap.size w w6) := HB3.out.trans (HBel.out.mono HB3.out.size)
        clear hrp
        generalize hpn : ps.length = pn at *
        have HPn := Lib.hid hpn; clear hpn
        generalize (cat l ps).length = tot0 at *
        generalize (pack (cat l ps)).length = Nall at *
        go_wp2
        go_loopw [13, 14] (fun v p wq => ∃ k : Nat, k ≤ pn ∧ p = .int .i64 (k : Int) ∧ v = .int .i64 ((cat l (ps.take k)).length : Int) ∧ Below w6.heap.size w6 wq) (fun _ p _ => pn - (intOf p).toNat)
        case atStart => exact ⟨0, Nat.zero_le _, rfl, by rw [← HZ.out], Below.refl _ _⟩
        case round =>
          obtain ⟨k, hkp, rfl, rfl, hbq⟩ := hrel
          by_cases hkl : k < pn
          · obtain ⟨bp, op, rfl, hbp, kp⟩ := (HRp.out.below hbq hbq.size).at_ (ns_get ps k (by rw [HPn.out]; exact hkl))
            obtain ⟨z0, z1⟩ := HFin.out _ hbq
            have hmo := HMono.out k hkl
            have HSk := Lib.hid (HSi.out k hkl _ hbq)
            have HBq := Lib.hid hbq
            clear hbq
            generalize (cat l (ps.take k)).length = a0 at *
            have HA1 : Hid ((cat l (ps.take (k + 1))).length = (cat l (ps.take (k + 1))).length) := rfl
            obtain ⟨a1, ha1⟩ : ∃ a1, (cat l (ps.take (k + 1))).length = a1 := ⟨_, rfl⟩
            rw [ha1] at hmo HSk
            have HA := Lib.hid ha1; clear ha1 HA1
            generalize ps[k]?.getD 0 = pk at *
            go_wp2_with fail
            refine HSk.out.mono ?_
            rintro e w8 ⟨rfl, b8⟩
            have kp8 := (World.cell?_of_block (a := ⟨bp, op + k, none⟩) (b8.block bp hbp)).trans kp
            have HB8 : Hid (Below w6.heap.size w6 w8) := HBq.out.trans (b8.mono HBq.out.size)
            have t9 : decide ((a1 : Int) ≤ (a0 : Int)) = false := by simp; omega
            clear b8 kp
            go_wp2
            go_roundw
            case rel => exact ⟨k + 1, by omega, by go_num, by rw [HA.out], HB8.out⟩
            case measure => simp [intOf]; omega
          · have hkk : k = pn := by omega
            subst hkk
            obtain ⟨z0, z1⟩ := HFin.out _ hbq
            have he : (cat l (ps.take k)).length = tot0 := HEnd.out
            have HBq := Lib.hid hbq
            rw [he]
            clear hbq he
            go_wp2
            go_ret
            exact ⟨ret_bool (by simp), HB9.out.trans (HBq.out.mono HB9.out.size)⟩
    · clear hbel
      clear HCell HBs HCL HLen
      obtain ⟨w6, hw6⟩ : ∃ x : World, x = wr := ⟨wr, rfl⟩
      subst hw6
      obtain ⟨Ap, cp, rfl, hrp⟩ := own_rdi HRow.out
      have HRp := Lib.hid hrp
      have HAll : Hid ((cat l ps).length ≤ 8192) := by show _ ≤ _; omega
      have HSi : Hid (∀ k, k < ps.length → ∀ V, Below w6.heap.size w6 V → Calls Try.prog 20 #[.slice A1 n1 c1, .agg #[.int .i64 ((cat l ps).length : Int), .slice Aa (pack (cat l ps)).length ca], .int .i64 ((cat l (ps.take k)).length : Int)] V (SgP V (ps[k]?.getD 0) (cat l (ps.take (k + 1))).length 0)) := by
        intro k hk V hV
        obtain ⟨q1, q2, q3⟩ := HCs.out ps HPs.out k hk
        exact HSg.out V (HB3.out.trans ((HBel.out.trans (hV.mono HBel.out.size)).mono HB3.out.size)) (cat l ps) HAll.out Aa ca (HRd.out.on hV) _ (by omega) _ _ q1
      have HMono : Hid (∀ k, k < ps.length → (cat l (ps.take k)).length < (cat l (ps.take (k + 1))).length) := fun k hk => (HCs.out ps HPs.out k hk).2.1
      have hBaw : w3.heap.size < w6.heap.size := (Array.getElem?_eq_some_iff.1 HBox.out).1
      have HEnd : Hid ((cat l (ps.take ps.length)).length = (cat l ps).length) := by show _ = _; rw [List.take_length]
      have HFin : Hid (∀ V, Below w6.heap.size w6 V → V.cell? ⟨w3.heap.size, 0, none⟩ = some (.int .i64 ((cat l ps).length : Int)) ∧ V.cell? ⟨w3.heap.size, 1, none⟩ = some (.slice Aa (pack (cat l ps)).length ca)) := fun V hV => by
        have k0 := (hV.block w3.heap.size hBaw).trans HBox.out
        exact ⟨(cell_at k0 _).trans rfl, (cell_at k0 _).trans rfl⟩
      have HZ : Hid ((0 : Int) = ((cat l (ps.take 0)).length : Int)) := by show _ = _; simp [cat]
      have HB9 : Hid (Below w.heap.size w w6) := HB3.out.trans (HBel.out.mono HB3.out.size)
      clear hrp
      generalize hpn : ps.length = pn at *
      have HPn := Lib.hid hpn; clear hpn
      generalize (cat l ps).length = tot0 at *
      generalize (pack (cat l ps)).length = Nall at *
      go_wp2
      go_loopw [13, 14] (fun v p wq => ∃ k : Nat, k ≤ pn ∧ p = .int .i64 (k : Int) ∧ v = .int .i64 ((cat l (ps.take k)).length : Int) ∧ Below w6.heap.size w6 wq) (fun _ p _ => pn - (intOf p).toNat)
      case atStart => exact ⟨0, Nat.zero_le _, rfl, by rw [← HZ.out], Below.refl _ _⟩
      case round =>
        obtain ⟨k, hkp, rfl, rfl, hbq⟩ := hrel
        by_cases hkl : k < pn
        · obtain ⟨bp, op, rfl, hbp, kp⟩ := (HRp.out.below hbq hbq.size).at_ (ns_get ps k (by rw [HPn.out]; exact hkl))
          obtain ⟨z0, z1⟩ := HFin.out _ hbq
          have hmo := HMono.out k hkl
          have HSk := Lib.hid (HSi.out k hkl _ hbq)
          have HBq := Lib.hid hbq
          clear hbq
          generalize (cat l (ps.take k)).length = a0 at *
          have HA1 : Hid ((cat l (ps.take (k + 1))).length = (cat l (ps.take (k + 1))).length) := rfl
          obtain ⟨a1, ha1⟩ : ∃ a1, (cat l (ps.take (k + 1))).length = a1 := ⟨_, rfl⟩
          rw [ha1] at hmo HSk
          have HA := Lib.hid ha1; clear ha1 HA1
          generalize ps[k]?.getD 0 = pk at *
          go_wp2_with fail
          refine HSk.out.mono ?_
          rintro e w8 ⟨rfl, b8⟩
          have kp8 := (World.cell?_of_block (a := ⟨bp, op + k, none⟩) (b8.block bp hbp)).trans kp
          have HB8 : Hid (Below w6.heap.size w6 w8) := HBq.out.trans (b8.mono HBq.out.size)
          have t9 : decide ((a1 : Int) ≤ (a0 : Int)) = false := by simp; omega
          clear b8 kp
          go_wp2
          go_roundw
          case rel => exact ⟨k + 1, by omega, by go_num, by rw [HA.out], HB8.out⟩
          case measure => simp [intOf]; omega
        · have hkk : k = pn := by omega
          subst hkk
          obtain ⟨z0, z1⟩ := HFin.out _ hbq
          have he : (cat l (ps.take k)).length = tot0 := HEnd.out
          have HBq := Lib.hid hbq
          rw [he]
          clear hbq he
          go_wp2
          go_ret
          exact ⟨ret_bool (by simp), HB9.out.trans (HBq.out.mono HB9.out.size)⟩

theorem kraftBack_law (A1 : Option Addr) (c1 : Nat) (xs : List Int) (A2 : Option Addr) (c2 : Nat) (ys : List Int) (w : World) (hb : ∀ x ∈ xs, -9223372036854775808 ≤ x ∧ x ≤ 9223372036854775807) (h : RdV w w.heap.size A1 (zc xs)) (hs : xs.length ≤ 9223372036854775807) (hb2 : ∀ x ∈ ys, -9223372036854775808 ≤ x ∧ x ≤ 9223372036854775807) (h2 : RdV w w.heap.size A2 (zc ys)) (hs2 : ys.length ≤ 9223372036854775807) :
    Calls Try.prog 6 #[.slice A1 xs.length c1, .slice A2 ys.length c2] w fun e w' => e = .returned (.bool true) ∧ Below w.heap.size w w' := by
  by_cases he : woE xs = 0
  · obtain ⟨l, rfl, h64, h24, hr⟩ := woE_zero xs he
    rw [ns_length]
    exact lback_ok l _ rfl h64 h24 hr A1 c1 ys _ rfl hs2 A2 c2 w h h2
  · exact lback_e A1 _ c1 A2 _ c2 w _ he (codes_w A1 _ c1 w _ he (wordsOf_no xs _ rfl hs _ rfl he A1 c1 w h))
end Go.Proofs.Ytlmoidblglmdgaa
