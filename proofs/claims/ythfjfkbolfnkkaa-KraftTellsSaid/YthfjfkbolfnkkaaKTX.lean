/- The law KraftTells, its parts: what the calls answer, and the document, on the same. -/
import Derived.Test.YthfjfkbolfnkkaaKSg
import Derived.Test.YthfjfkbolfnkkaaKOpenB
namespace Go.Proofs.Ythfjfkbolfnkkaa

section
set_option maxRecDepth 100000
set_option linter.unusedVariables false
open Go.RowKit Go.Shelf Go.Sort

def GotX (w : World) (n : Nat) (ls : List (List Bool)) (err : Int) (e : Ending) (w' : World) : Prop :=
  ∃ (A : Option Addr) (c : Nat) (bs : List Bx), e = .returned (.tuple #[.slice A n c, .int .i64 err]) ∧ bs.map (fun x : Bx => x.1) = ls ∧ bs.length = n ∧ RdR w' w'.heap.size A (bs.map rx) ∧ Below w.heap.size w w'
theorem gotX_c {w : World} {ls : List (List Bool)} {n : Nat} (hn : ls.length = n) {e : Ending} {w' : World} (h : GotC w ls e w') : GotX w n ls 0 e w' := by
  obtain ⟨A, c, bs, h1, h2, h3, h4⟩ := h
  exact ⟨A, c, bs, by rw [h1, hn], h2, by have := congrArg List.length h2; rw [List.length_map] at this; omega, h3, h4⟩
theorem gotX_e {w : World} {err : Int} {e : Ending} {w' : World} (h : e = .returned (.tuple #[.slice none 0 0, .int .i64 err]) ∧ Below w.heap.size w w') : GotX w 0 [] err e w' :=
  ⟨none, 0, [], h.1, rfl, rfl, .inl rfl, h.2⟩
theorem codes_small (l : List Nat) (h24 : ∀ x ∈ l, x ≤ 24) : ∀ x ∈ codes l, x.length ≤ 8192 := fun x hx => by
  obtain ⟨t, ht, rfl⟩ := List.mem_map.1 hx
  have ht' := List.mem_range.1 ht
  rw [codOf_len (words_ok l h24) ht', List.getElem?_eq_getElem ht']
  have := h24 _ (List.getElem_mem ht')
  simp only [Option.getD_some]; omega
theorem tells_codes (A1 : Option Addr) (n c1 : Nat) (xs : List Int) (hn : xs.length = n) (hs : n ≤ 9223372036854775807) : ∃ (k : Nat) (ls : List (List Bool)) (err : Int), (∀ x ∈ ls, x.length ≤ 8192) ∧ k ≤ 64 ∧ ∀ V, RdV V V.heap.size A1 (zc xs) →
    Calls Try.prog 13 #[.slice A1 n c1] V (GotX V k ls err) ∧ Calls Try.prog 18 #[.slice A1 n c1] V (GotX V k ls err) := by
  by_cases hk : kchk xs = 0
  · obtain ⟨l, rfl, h64, h24⟩ := kchk_zero xs hk
    have hl : l.length = n := by rw [← hn]; simp
    by_cases hr : tkn l ≤ 16777216
    · refine ⟨n, codes l, 0, codes_small l h24, by omega, fun V h => ⟨(codes_ok l n hl (by omega) h24 hr A1 c1 V h).mono fun _ _ q => gotX_c (by rw [codes_length, hl]) q, (refcodes_ok l n hl (by omega) h24 hr A1 c1 V h).mono fun _ _ q => gotX_c (by rw [codes_length, hl]) q⟩⟩
    · refine ⟨0, [], 8, by simp, by omega, fun V h => ⟨(codes_w A1 n c1 V 8 (by decide) (wordsOf_no _ n hn hs 8 (by unfold woE; rw [if_neg (by simpa using hk)]; have := ns_nat l; unfold ns at this; rw [this, if_pos (by omega)]) (by decide) A1 c1 V h)).mono fun _ _ q => gotX_e q, (refcodes_full l n hl (by omega) h24 (by omega) A1 c1 V h).mono fun _ _ q => gotX_e q⟩⟩
  · refine ⟨0, [], kchk xs, by simp, by omega, fun V h => ⟨(codes_w A1 n c1 V _ hk (wordsOf_no _ n hn hs _ (by unfold woE; rw [if_pos hk]) hk A1 c1 V h)).mono fun _ _ q => gotX_e q, (refcodes_e xs n hn hs _ rfl hk A1 c1 V h).mono fun _ _ q => gotX_e q⟩⟩
theorem tells_apart (A2 : Option Addr) (n c2 : Nat) (rs : List Rx) (hn : rs.length = n) (hs : n ≤ 9223372036854775807) (hb : ∀ x ∈ rs, ∀ b ∈ x.2.2.2, b < 256) : ∃ (a : Bool) (g : Int), ∀ V, RdR V V.heap.size A2 rs →
    (Calls Try.prog 14 #[.slice A2 n c2] V fun e w' => e = .returned (.tuple #[.bool a, .int .i64 g]) ∧ Below V.heap.size V w') ∧ (Calls Try.prog 19 #[.slice A2 n c2] V fun e w' => e = .returned (.tuple #[.bool a, .int .i64 g]) ∧ Below V.heap.size V w') := by
  by_cases h0 : apE rs = 0
  · obtain ⟨bs, rfl, h64, h8⟩ := apE_zero rs hb h0
    have hl : bs.length = n := by rw [← hn, List.length_map]
    obtain ⟨r, hr⟩ : ∃ r : Bool, r = true ↔ apart (bs.map (fun x => x.1)) := by
      by_cases h : apart (bs.map (fun x => x.1))
      · exact ⟨true, by simp [h]⟩
      · exact ⟨false, by simp [h]⟩
    refine ⟨r, 0, fun V h => ⟨(apart_ok bs n hl (by rw [List.length_map] at h64; omega) A2 c2 V h h8).mono fun e w' q => ?_, refapart_ok bs n hl (by rw [List.length_map] at h64; omega) A2 c2 V h h8 r hr⟩⟩
    obtain ⟨b, hb1, he, hbel⟩ := q
    have : b = r := by
      cases b <;> cases r <;> simp_all
    subst this
    exact ⟨he, hbel⟩
  · exact ⟨false, apE rs, fun V h => ⟨apart_e rs n hn hs A2 c2 V h hb _ rfl h0, refapart_e rs n hn hs A2 c2 V h hb _ rfl h0⟩⟩
theorem rg_rd (len : Int) (bs : List Nat) (p : Int) : rgE (chk len bs) [decide (0 ≤ p), decide (p ≤ len)] = rdE len bs p := by
  unfold rgE rdE
  by_cases h : chk len bs = 0
  · have hR : (if chk len bs ≠ 0 then chk len bs else if p < 0 ∨ len < p then 3 else 0) = if p < 0 ∨ len < p then 3 else 0 := if_neg (fun q => q h)
    rw [hR]
    by_cases h2 : p < 0 ∨ len < p
    · have hc : [decide (0 ≤ p), decide (p ≤ len)].contains false = true := by
        rcases h2 with q | q
        · have : decide (0 ≤ p) = false := by simp; omega
          rw [this]; simp
        · have : decide (p ≤ len) = false := by simp; omega
          rw [this]; simp
      rw [if_pos h2, if_pos ⟨h, hc⟩]
    · have e1 : decide (0 ≤ p) = true := by simp; omega
      have e2 : decide (p ≤ len) = true := by simp; omega
      rw [e1, e2, if_neg h2, if_neg (by simp), h]
  · rw [if_pos h, if_neg (fun q => h q.1)]
theorem tells_sign (A1 : Option Addr) (n c1 : Nat) (xs : List Int) (hn : xs.length = n) (hs : n ≤ 9223372036854775807) (len : Int) (A3 : Option Addr) (c3 : Nat) (bs : List Nat) (hb : ∀ b ∈ bs, b < 256) (p : Int) : ∃ s to he : Int, ∀ V, RdV V V.heap.size A1 (zc xs) → Rd V V.heap.size A3 bs →
    Calls Try.prog 15 #[.slice A1 n c1, .agg #[.int .i64 len, .slice A3 bs.length c3], .int .i64 p] V (SgQ V s to he) ∧ Calls Try.prog 20 #[.slice A1 n c1, .agg #[.int .i64 len, .slice A3 bs.length c3], .int .i64 p] V (SgQ V s to he) := by
  by_cases hk : kchk xs = 0
  · obtain ⟨l, rfl, h64, h24⟩ := kchk_zero xs hk
    have hl : l.length = n := by rw [← hn]; simp
    by_cases hr : tkn l ≤ 16777216
    · by_cases h0 : rdE len bs p = 0
      · have hck : chk len bs = 0 := by
          unfold rdE at h0
          by_cases h : chk len bs = 0
          · exact h
          · rw [if_pos h] at h0; exact absurd h0 h
        have hpp : ¬ (p < 0 ∨ len < p) := fun q => by unfold rdE at h0; rw [if_neg (by simpa using hck), if_pos q] at h0; omega
        obtain ⟨lb, e1, e2, e3⟩ := chk_zero len bs hb hck
        subst e1 e3
        obtain ⟨P, rfl⟩ : ∃ P : Nat, p = (P : Int) := ⟨p.toNat, by omega⟩
        obtain ⟨⟨s, to, e0⟩, hres⟩ : ∃ x, sgA P (sgn (lb.drop P) (words l)) = x := ⟨_, rfl⟩
        exact ⟨s, to, e0, fun V h1 h2 => ⟨sign_ok l n hl (by omega) h24 hr A1 c1 V h1 lb (by omega) A3 c3 h2 P (by omega) s to e0 hres, refsign_ok l n hl (by omega) h24 hr A1 c1 V lb (by omega) A3 c3 h2 P (by omega) s to e0 hres fun V' hV' => refcodes_ok l n hl (by omega) h24 hr A1 c1 V' (h1.on hV')⟩⟩
      · exact ⟨0, 0, rdE len bs p, fun V h1 h2 => ⟨sign_r l n hl (by omega) h24 hr A1 c1 V h1 len A3 c3 bs hb h2 p _ _ rfl (rg_rd len bs p) h0, refsign_r A1 n c1 len A3 bs hb c3 p V h2 _ rfl h0 (codes l) fun V' hV' => refcodes_ok l n hl (by omega) h24 hr A1 c1 V' (h1.on hV')⟩⟩
    · exact ⟨0, 0, 8, fun V h1 h2 => ⟨sign_w A1 n c1 len A3 bs.length c3 p V 8 (by decide) fun V' hV' => wordsOf_no _ n hn hs 8 (by unfold woE; rw [if_neg (by simpa using hk)]; have := ns_nat l; unfold ns at this; rw [this, if_pos (by omega)]) (by decide) A1 c1 V' (h1.on hV'), refsign_c A1 n c1 len A3 bs.length c3 p V 8 (by decide) fun V' hV' => refcodes_full l n hl (by omega) h24 (by omega) A1 c1 V' (h1.on hV')⟩⟩
  · exact ⟨0, 0, kchk xs, fun V h1 h2 => ⟨sign_w A1 n c1 len A3 bs.length c3 p V _ hk fun V' hV' => wordsOf_no _ n hn hs _ (by unfold woE; rw [if_pos hk]) hk A1 c1 V' (h1.on hV'), refsign_c A1 n c1 len A3 bs.length c3 p V _ hk fun V' hV' => refcodes_e xs n hn hs _ rfl hk A1 c1 V' (h1.on hV')⟩⟩
end

section
set_option maxRecDepth 100000
set_option linter.unusedVariables false
open Go.RowKit Go.Shelf Go.Sort

def FarK (n : Nat) (w : World) (p : Value) (wr : World) : Prop := ∃ i : Nat, i ≤ n ∧ p = .int .i64 (i : Int) ∧ Below w.heap.size w wr
set_option maxHeartbeats 8000000 in
theorem kraftTells_law (A1 : Option Addr) (c1 : Nat) (xs : List Int) (A2 : Option Addr) (c2 : Nat) (rs : List Rx) (len : Int) (A3 : Option Addr) (c3 : Nat) (bs : List Nat) (p : Int) (w : World)
    (hb1 : ∀ x ∈ xs, -9223372036854775808 ≤ x ∧ x ≤ 9223372036854775807) (h1 : RdV w w.heap.size A1 (zc xs)) (hs1 : xs.length ≤ 9223372036854775807) (hb2 : ∀ x ∈ rs, ∀ b ∈ x.2.2.2, b < 256) (h2 : RdR w w.heap.size A2 rs) (hs2 : rs.length ≤ 9223372036854775807) (hb3 : ∀ b ∈ bs, b < 256) (h3 : Rd w w.heap.size A3 bs) (hp : -9223372036854775808 ≤ p ∧ p ≤ 9223372036854775807) :
    Calls Try.prog 3 #[.slice A1 xs.length c1, .slice A2 rs.length c2, .agg #[.int .i64 len, .slice A3 bs.length c3], .int .i64 p] w fun e w' => e = .returned (.bool true) ∧ Below w.heap.size w w' := by
  obtain ⟨k, ls, ec, hls, hk64, hCo⟩ := tells_codes A1 xs.length c1 xs rfl hs1
  obtain ⟨a, ga, hAp⟩ := tells_apart A2 rs.length c2 rs rfl hs2 hb2
  obtain ⟨s, to, he, hSi⟩ := tells_sign A1 xs.length c1 xs rfl hs1 len A3 c3 bs hb3 p
  have HCo := Lib.hid (fun (V : World) (hV : Below w.heap.size w V) => hCo V (h1.on hV))
  have HAp := Lib.hid (fun (V : World) (hV : Below w.heap.size w V) => hAp V (h2.below hV hV.size))
  have HSi := Lib.hid (fun (V : World) (hV : Below w.heap.size w V) => hSi V (h1.on hV) (h3.on hV))
  have HRo := Lib.hid (fun (V : World) (hV : Below w.heap.size w V) => room_any xs _ rfl hs1 A1 c1 V (h1.on hV))
  have HCk := Lib.hid (fun (V : World) (hV : Below w.heap.size w V) => kcheck_any xs _ rfl hs1 A1 c1 V (h1.on hV))
  have HRc := Lib.hid (fun (V : World) (hV : Below w.heap.size w V) => refchk_any xs _ rfl hs1 A1 c1 V (h1.on hV))
  have HRr : Hid (kchk xs = 0 → ∀ V, Below w.heap.size w V → Calls Try.prog 17 #[.slice A1 xs.length c1] V fun e w' => e = .returned (.int .i64 (roR xs)) ∧ Below V.heap.size V w') := fun h0 V hV => by
    obtain ⟨l, rfl, h64, h24⟩ := kchk_zero xs h0
    have e : roR (l.map (fun (x : Nat) => (x : Int))) = 16777216 - (tkn l : Int) := by
      unfold roR; rw [if_pos h0]; have := ns_nat l; unfold ns at this; rw [this]
    rw [e]
    exact refroom_ok l _ (by simp) (by rw [List.length_map]; exact h64) h24 A1 c1 V (h1.on hV)
  have HR0 : Hid (kchk xs ≠ 0 → roR xs = 0) := fun h => by unfold roR; rw [if_neg h]
  have HLs := Lib.hid hls
  clear hCo hAp hSi h1 h2 h3 hb1 hb2 hb3 hp hs1 hs2 hls
  generalize roR xs = ro at *
  generalize kchk xs = w0 at *
  generalize xs.length = n1 at *
  generalize rs.length = n2 at *
  generalize bs.length = N at *
  have f1 : (w0 != w0) = false := by simp
  have f2 : (ro != ro) = false := by simp
  have f3 : (ec != ec) = false := by simp
  have f4 : (a != a) = false := by simp
  have f5 : (ga != ga) = false := by simp
  have f6 : (s != s) = false := by simp
  have f7 : (to != to) = false := by simp
  have f8 : (he != he) = false := by simp
  have f9 : ((k : Int) != (k : Int)) = false := by simp
  go_enter Try.func3, Try.ntmps3
  go_wp2_with fail
  generalize hV : w.alloc (.cells #[.int .i64 len, .slice A3 N c3] 26) = V0
  have HV : Hid (Below w.heap.size w V0) := hV ▸ one_below _ _
  have HK : Hid (∀ w' : World, Below V0.heap.size V0 w' → w'.cell? ⟨w.heap.size, 0, none⟩ = some (.int .i64 len) ∧ w'.cell? ⟨w.heap.size, 1, none⟩ = some (.slice A3 N c3)) := by
    subst hV
    exact fun w' h => box_at (by rwa [World.size_alloc] at h)
  clear hV
  have HB : Hid (Below V0.heap.size V0 V0) := Below.refl _ _
  refine (HRo.out V0 HV.out).mono ?_
  rintro e w1 ⟨rfl, Bq⟩
  replace HB := Lib.hid (HB.out.trans (Bq.mono HB.out.size))
  clear Bq HRo
  go_wp2_with fail
  refine (HCo.out w1 (HV.out.trans (HB.out.mono HV.out.size))).1.mono ?_
  rintro e w2 ⟨Ac, cc, cs, rfl, hcs, hcl, hcr, Bq⟩
  replace HB := Lib.hid (HB.out.trans (Bq.mono HB.out.size))
  have HCs := Lib.hid hcs; have HCl := Lib.hid hcl; have HCr := Lib.hid hcr
  clear Bq hcs hcl hcr
  go_wp2_with fail
  refine (HAp.out w2 (HV.out.trans (HB.out.mono HV.out.size))).1.mono ?_
  rintro e w3 ⟨rfl, Bq⟩
  replace HB := Lib.hid (HB.out.trans (Bq.mono HB.out.size))
  replace HCr := Lib.hid (HCr.out.below Bq Bq.size)
  clear Bq
  obtain ⟨k0, k1⟩ := HK.out w3 HB.out
  go_wp2_with fail
  refine (HSi.out w3 (HV.out.trans (HB.out.mono HV.out.size))).1.mono ?_
  rintro e w4 ⟨rfl, Bq⟩
  replace HB := Lib.hid (HB.out.trans (Bq.mono HB.out.size))
  replace HCr := Lib.hid (HCr.out.below Bq Bq.size)
  clear Bq k0 k1
  go_wp2_with fail
  refine (HRc.out w4 (HV.out.trans (HB.out.mono HV.out.size))).mono ?_
  rintro e w5 ⟨rfl, Bq⟩
  replace HB := Lib.hid (HB.out.trans (Bq.mono HB.out.size))
  replace HCr := Lib.hid (HCr.out.below Bq Bq.size)
  clear Bq HRc
  by_cases hw : w0 = 0
  · subst hw
    have HRr0 := Lib.hid (HRr.out rfl)
    clear HRr HR0
    go_wp2_with fail
    refine (HRr0.out w5 (HV.out.trans (HB.out.mono HV.out.size))).mono ?_
    rintro e w6 ⟨rfl, Bq⟩
    replace HB := Lib.hid (HB.out.trans (Bq.mono HB.out.size))
    replace HCr := Lib.hid (HCr.out.below Bq Bq.size)
    clear Bq HRr0
    go_wp2_with fail
    refine (HCo.out w6 (HV.out.trans (HB.out.mono HV.out.size))).2.mono ?_
    rintro e w7 ⟨Ad, cd, ds, rfl, hds, hdl, hdr, Bq⟩
    replace HB := Lib.hid (HB.out.trans (Bq.mono HB.out.size))
    replace HCr := Lib.hid (HCr.out.below Bq Bq.size)
    have HDs := Lib.hid hds; have HDl := Lib.hid hdl; have HDr := Lib.hid hdr
    clear Bq hds hdl hdr HCo
    go_wp2_with fail
    refine (HAp.out w7 (HV.out.trans (HB.out.mono HV.out.size))).2.mono ?_
    rintro e w8 ⟨rfl, Bq⟩
    replace HB := Lib.hid (HB.out.trans (Bq.mono HB.out.size))
    replace HCr := Lib.hid (HCr.out.below Bq Bq.size)
    replace HDr := Lib.hid (HDr.out.below Bq Bq.size)
    clear Bq HAp
    obtain ⟨k0, k1⟩ := HK.out w8 HB.out
    go_wp2_with fail
    refine (HSi.out w8 (HV.out.trans (HB.out.mono HV.out.size))).2.mono ?_
    rintro e w9 ⟨rfl, Bq⟩
    replace HB := Lib.hid (HB.out.trans (Bq.mono HB.out.size))
    replace HCr := Lib.hid (HCr.out.below Bq Bq.size)
    replace HDr := Lib.hid (HDr.out.below Bq Bq.size)
    clear Bq k0 k1 HSi HK
    go_wp2_with fail
    refine (kbegun w9).mono ?_
    rintro e w10 ⟨rfl, Bq⟩
    replace HB := Lib.hid (HB.out.trans (Bq.mono HB.out.size))
    replace HCr := Lib.hid (HCr.out.below Bq Bq.size)
    replace HDr := Lib.hid (HDr.out.below Bq Bq.size)
    clear Bq
    go_wp2_with fail
    refine (HCk.out w10 (HV.out.trans (HB.out.mono HV.out.size))).mono ?_
    rintro e w11 ⟨rfl, Bq⟩
    replace HB := Lib.hid (HB.out.trans (Bq.mono HB.out.size))
    replace HCr := Lib.hid (HCr.out.below Bq Bq.size)
    replace HDr := Lib.hid (HDr.out.below Bq Bq.size)
    clear Bq HCk
    go_wp2
    clear f1 f2 f3 f4 f5 f6 f7 f8 f9
    go_loopw [27] (fun p wr => FarK k w11 p wr) (fun p _ => k - (intOf p).toNat)
    case atStart => exact ⟨0, Nat.zero_le _, rfl, Below.refl _ _⟩
    case round =>
      obtain ⟨i, hi, rfl, hbel⟩ := hrel
      by_cases hlt : i < k
      · have hxi : (cs.map rx)[i]? = some (rx (bAt cs i)) := by rw [List.getElem?_map]; unfold bAt; rw [List.getElem?_eq_getElem (by rw [HCl.out]; exact hlt)]; rfl
        have hyi : (ds.map rx)[i]? = some (rx (bAt ds i)) := by rw [List.getElem?_map]; unfold bAt; rw [List.getElem?_eq_getElem (by rw [HDl.out]; exact hlt)]; rfl
        obtain ⟨b, off, rfl, hbl, c0, c1', cR⟩ := (HCr.out.below hbel hbel.size).at_ hxi
        obtain ⟨b2, off2, rfl, hbl2, d0, d1', dR⟩ := (HDr.out.below hbel hbel.size).at_ hyi
        have hx1 : (bAt cs i).1 = ls[i]?.getD [] := by rw [← HCs.out, List.getElem?_map]; unfold bAt; cases cs[i]? <;> rfl
        have hy1 : (bAt ds i).1 = ls[i]?.getD [] := by rw [← HDs.out, List.getElem?_map]; unfold bAt; cases ds[i]? <;> rfl
        have h8 : (ls[i]?.getD []).length ≤ 8192 := by
          cases hq : ls[i]? with
          | none => simp
          | some y => exact HLs.out y (List.mem_of_getElem? hq)
        generalize bAt cs i = X at *
        generalize bAt ds i = Y at *
        obtain ⟨x, B1, e1⟩ := X
        obtain ⟨y, B2, e2⟩ := Y
        simp only [rx] at c0 c1' cR d0 d1' dR hx1 hy1
        generalize ls[i]?.getD [] = z at *
        subst hx1 hy1
        have HSm : Hid (∀ V, Below wr.heap.size wr V → Calls Try.prog 23 #[.agg #[.int .i64 (y.length : Int), .slice B1 (pack y).length e1], .agg #[.int .i64 (y.length : Int), .slice B2 (pack y).length e2]] V fun e w' => e = .returned (.bool true) ∧ Below V.heap.size V w') := fun V hV => same_l y h8 B1 B2 e1 e2 V (cR.on hV) (dR.on hV)
        have HKc : Hid (∀ w' : World, Below wr.heap.size wr w' → w'.cell? ⟨b, off + i * 2, none⟩ = some (.int .i64 (y.length : Int)) ∧ w'.cell? ⟨b, off + i * 2 + 1, none⟩ = some (.slice B1 (pack y).length e1) ∧ w'.cell? ⟨b2, off2 + i * 2, none⟩ = some (.int .i64 (y.length : Int)) ∧ w'.cell? ⟨b2, off2 + i * 2 + 1, none⟩ = some (.slice B2 (pack y).length e2)) := fun w' hw =>
          ⟨(World.cell?_of_block (a := ⟨b, off + i * 2, none⟩) (hw.block b hbl)).trans c0, (World.cell?_of_block (a := ⟨b, off + i * 2 + 1, none⟩) (hw.block b hbl)).trans c1', (World.cell?_of_block (a := ⟨b2, off2 + i * 2, none⟩) (hw.block b2 hbl2)).trans d0, (World.cell?_of_block (a := ⟨b2, off2 + i * 2 + 1, none⟩) (hw.block b2 hbl2)).trans d1'⟩
        have t1 : decide ((i : Int) < (k : Int)) = true := by simp; omega
        have t2 : decide (i < k) = true := by simpa using hlt
        have t3 : (0 : Int) ≤ (i : Int) := by omega
        have t4 : (i : Int) < (k : Int) := by omega
        have HB9 := Lib.hid hbel
        clear cR dR h8 hxi hyi hbel
        generalize (pack y).length = P at *
        generalize y.length = L at *
        go_wp2_with fail
        go_region_held3 (fun w' => w'.cell? ⟨b, off + i * 2, none⟩ = some (.int .i64 (L : Int)) ∧ w'.cell? ⟨b, off + i * 2 + 1, none⟩ = some (.slice B1 P e1) ∧ w'.cell? ⟨b2, off2 + i * 2, none⟩ = some (.int .i64 (L : Int)) ∧ w'.cell? ⟨b2, off2 + i * 2 + 1, none⟩ = some (.slice B2 P e2))
          ((refine HKc.out _ ?_; first | exact hk1.out | exact (Below.refl _ _).drew))
          (first
            | (go_at_call 23; refine (HSm.out wr.drew (Below.refl _ wr).drew).mono ?_; rintro e w12 ⟨rfl, B5⟩; have hk1 : Hid (Below wr.heap.size wr w12) := ((Below.refl _ wr).drew).trans B5; clear B5))
        have HB10 : Hid (Below w11.heap.size w11 w12) := HB9.out.trans (hk1.out.mono HB9.out.size)
        go_wp2
        go_roundw
        case rel => exact ⟨i + 1, by omega, by go_num, HB10.out⟩
        case measure => simp [intOf]; omega
      · obtain rfl : i = k := by omega
        have t1 : decide ((i : Int) < (i : Int)) = false := by simp
        have t2 : decide (i < i) = false := by simp
        have HB9 := Lib.hid hbel
        clear hbel
        go_wp2
        go_ret
        exact ⟨rfl, HV.out.trans ((HB.out.trans (HB9.out.mono HB.out.size)).mono HV.out.size)⟩
  · obtain rfl := HR0.out hw
    have t0 : (w0 == 0) = false := by simpa using hw
    obtain ⟨w6, hw6⟩ : ∃ w6, w6 = w5 := ⟨_, rfl⟩
    subst hw6
    clear HRr HR0 hw
    go_wp2_with fail
    refine (HCo.out w6 (HV.out.trans (HB.out.mono HV.out.size))).2.mono ?_
    rintro e w7 ⟨Ad, cd, ds, rfl, hds, hdl, hdr, Bq⟩
    replace HB := Lib.hid (HB.out.trans (Bq.mono HB.out.size))
    replace HCr := Lib.hid (HCr.out.below Bq Bq.size)
    have HDs := Lib.hid hds; have HDl := Lib.hid hdl; have HDr := Lib.hid hdr
    clear Bq hds hdl hdr HCo
    go_wp2_with fail
    refine (HAp.out w7 (HV.out.trans (HB.out.mono HV.out.size))).2.mono ?_
    rintro e w8 ⟨rfl, Bq⟩
    replace HB := Lib.hid (HB.out.trans (Bq.mono HB.out.size))
    replace HCr := Lib.hid (HCr.out.below Bq Bq.size)
    replace HDr := Lib.hid (HDr.out.below Bq Bq.size)
    clear Bq HAp
    obtain ⟨k0, k1⟩ := HK.out w8 HB.out
    go_wp2_with fail
    refine (HSi.out w8 (HV.out.trans (HB.out.mono HV.out.size))).2.mono ?_
    rintro e w9 ⟨rfl, Bq⟩
    replace HB := Lib.hid (HB.out.trans (Bq.mono HB.out.size))
    replace HCr := Lib.hid (HCr.out.below Bq Bq.size)
    replace HDr := Lib.hid (HDr.out.below Bq Bq.size)
    clear Bq k0 k1 HSi HK
    go_wp2_with fail
    refine (kbegun w9).mono ?_
    rintro e w10 ⟨rfl, Bq⟩
    replace HB := Lib.hid (HB.out.trans (Bq.mono HB.out.size))
    replace HCr := Lib.hid (HCr.out.below Bq Bq.size)
    replace HDr := Lib.hid (HDr.out.below Bq Bq.size)
    clear Bq
    go_wp2_with fail
    refine (HCk.out w10 (HV.out.trans (HB.out.mono HV.out.size))).mono ?_
    rintro e w11 ⟨rfl, Bq⟩
    replace HB := Lib.hid (HB.out.trans (Bq.mono HB.out.size))
    replace HCr := Lib.hid (HCr.out.below Bq Bq.size)
    replace HDr := Lib.hid (HDr.out.below Bq Bq.size)
    clear Bq HCk
    go_wp2
    clear f1 f2 f3 f4 f5 f6 f7 f8 f9
    go_loopw [27] (fun p wr => FarK k w11 p wr) (fun p _ => k - (intOf p).toNat)
    case atStart => exact ⟨0, Nat.zero_le _, rfl, Below.refl _ _⟩
    case round =>
      obtain ⟨i, hi, rfl, hbel⟩ := hrel
      by_cases hlt : i < k
      · have hxi : (cs.map rx)[i]? = some (rx (bAt cs i)) := by rw [List.getElem?_map]; unfold bAt; rw [List.getElem?_eq_getElem (by rw [HCl.out]; exact hlt)]; rfl
        have hyi : (ds.map rx)[i]? = some (rx (bAt ds i)) := by rw [List.getElem?_map]; unfold bAt; rw [List.getElem?_eq_getElem (by rw [HDl.out]; exact hlt)]; rfl
        obtain ⟨b, off, rfl, hbl, c0, c1', cR⟩ := (HCr.out.below hbel hbel.size).at_ hxi
        obtain ⟨b2, off2, rfl, hbl2, d0, d1', dR⟩ := (HDr.out.below hbel hbel.size).at_ hyi
        have hx1 : (bAt cs i).1 = ls[i]?.getD [] := by rw [← HCs.out, List.getElem?_map]; unfold bAt; cases cs[i]? <;> rfl
        have hy1 : (bAt ds i).1 = ls[i]?.getD [] := by rw [← HDs.out, List.getElem?_map]; unfold bAt; cases ds[i]? <;> rfl
        have h8 : (ls[i]?.getD []).length ≤ 8192 := by
          cases hq : ls[i]? with
          | none => simp
          | some y => exact HLs.out y (List.mem_of_getElem? hq)
        generalize bAt cs i = X at *
        generalize bAt ds i = Y at *
        obtain ⟨x, B1, e1⟩ := X
        obtain ⟨y, B2, e2⟩ := Y
        simp only [rx] at c0 c1' cR d0 d1' dR hx1 hy1
        generalize ls[i]?.getD [] = z at *
        subst hx1 hy1
        have HSm : Hid (∀ V, Below wr.heap.size wr V → Calls Try.prog 23 #[.agg #[.int .i64 (y.length : Int), .slice B1 (pack y).length e1], .agg #[.int .i64 (y.length : Int), .slice B2 (pack y).length e2]] V fun e w' => e = .returned (.bool true) ∧ Below V.heap.size V w') := fun V hV => same_l y h8 B1 B2 e1 e2 V (cR.on hV) (dR.on hV)
        have HKc : Hid (∀ w' : World, Below wr.heap.size wr w' → w'.cell? ⟨b, off + i * 2, none⟩ = some (.int .i64 (y.length : Int)) ∧ w'.cell? ⟨b, off + i * 2 + 1, none⟩ = some (.slice B1 (pack y).length e1) ∧ w'.cell? ⟨b2, off2 + i * 2, none⟩ = some (.int .i64 (y.length : Int)) ∧ w'.cell? ⟨b2, off2 + i * 2 + 1, none⟩ = some (.slice B2 (pack y).length e2)) := fun w' hw =>
          ⟨(World.cell?_of_block (a := ⟨b, off + i * 2, none⟩) (hw.block b hbl)).trans c0, (World.cell?_of_block (a := ⟨b, off + i * 2 + 1, none⟩) (hw.block b hbl)).trans c1', (World.cell?_of_block (a := ⟨b2, off2 + i * 2, none⟩) (hw.block b2 hbl2)).trans d0, (World.cell?_of_block (a := ⟨b2, off2 + i * 2 + 1, none⟩) (hw.block b2 hbl2)).trans d1'⟩
        have t1 : decide ((i : Int) < (k : Int)) = true := by simp; omega
        have t2 : decide (i < k) = true := by simpa using hlt
        have t3 : (0 : Int) ≤ (i : Int) := by omega
        have t4 : (i : Int) < (k : Int) := by omega
        have HB9 := Lib.hid hbel
        clear cR dR h8 hxi hyi hbel
        generalize (pack y).length = P at *
        generalize y.length = L at *
        go_wp2_with fail
        go_region_held3 (fun w' => w'.cell? ⟨b, off + i * 2, none⟩ = some (.int .i64 (L : Int)) ∧ w'.cell? ⟨b, off + i * 2 + 1, none⟩ = some (.slice B1 P e1) ∧ w'.cell? ⟨b2, off2 + i * 2, none⟩ = some (.int .i64 (L : Int)) ∧ w'.cell? ⟨b2, off2 + i * 2 + 1, none⟩ = some (.slice B2 P e2))
          ((refine HKc.out _ ?_; first | exact hk1.out | exact (Below.refl _ _).drew))
          (first
            | (go_at_call 23; refine (HSm.out wr.drew (Below.refl _ wr).drew).mono ?_; rintro e w12 ⟨rfl, B5⟩; have hk1 : Hid (Below wr.heap.size wr w12) := ((Below.refl _ wr).drew).trans B5; clear B5))
        have HB10 : Hid (Below w11.heap.size w11 w12) := HB9.out.trans (hk1.out.mono HB9.out.size)
        go_wp2
        go_roundw
        case rel => exact ⟨i + 1, by omega, by go_num, HB10.out⟩
        case measure => simp [intOf]; omega
      · obtain rfl : i = k := by omega
        have t1 : decide ((i : Int) < (i : Int)) = false := by simp
        have t2 : decide (i < i) = false := by simp
        have HB9 := Lib.hid hbel
        clear hbel
        go_wp2
        go_ret
        exact ⟨rfl, HV.out.trans ((HB.out.trans (HB9.out.mono HB.out.size)).mono HV.out.size)⟩
end
end Go.Proofs.Ythfjfkbolfnkkaa
