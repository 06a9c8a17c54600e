/- The law GapsRead: Read answers just what the document says; for whatever bits and numbers it is handed. -/
import Derived.Test.YthldcdcpflamaaaJGNT4
namespace Go.Proofs.Ythldcdcpflamaaa
set_option maxRecDepth 100000
set_option linter.unusedVariables false
open Go.RowKit Go.Shelf

/-- The error of Read, as the document has it. -/
theorem rdE_eq (len : Int) (bs : List Nat) (p a k m : Int) : rdE len bs p a k m = if rdE0 len bs p ≠ 0 then rdE0 len bs p else if okN a = true ∧ okK k = true ∧ 0 ≤ m ∧ m ≤ 300 then 0 else 3 := by
  have key : ([decide (0 ≤ p), decide (p ≤ len), okN a, okK k, decide (0 ≤ m), decide (m ≤ 300)].contains false = true) ↔ ((p < 0 ∨ len < p) ∨ ¬ (okN a = true ∧ okK k = true ∧ 0 ≤ m ∧ m ≤ 300)) := by
    cases okN a <;> cases okK k <;> simp <;> omega
  unfold rdE rgE
  by_cases h : chk len bs = 0
  · have e0 : rdE0 len bs p = if p < 0 ∨ len < p then 3 else 0 := by unfold rdE0; rw [if_neg (by simpa using h)]
    rw [e0, h]
    by_cases h1 : p < 0 ∨ len < p
    · rw [if_pos ⟨rfl, key.2 (.inl h1)⟩]
      simp only [if_pos h1]; simp
    · simp only [if_neg h1]
      by_cases h2 : okN a = true ∧ okK k = true ∧ 0 ≤ m ∧ m ≤ 300
      · rw [if_neg (fun q => by rcases key.1 q.2 with q | q; exact h1 q; exact q h2)]
        simp [h2]
      · rw [if_pos ⟨trivial, key.2 (.inr h2)⟩]
        simp only [if_neg h2]; simp
  · have e0 : rdE0 len bs p = chk len bs := by unfold rdE0; rw [if_pos h]
    rw [e0, if_neg (fun q => h q.1), if_pos h]
theorem rdE0_zero (len : Int) (bs : List Nat) (hb : ∀ b ∈ bs, b < 256) (p : Int) (h : rdE0 len bs p = 0) : ∃ (L : List Bool) (q : Nat), len = (L.length : Int) ∧ L.length ≤ 8192 ∧ bs = pack L ∧ p = (q : Int) ∧ q ≤ L.length := by
  unfold rdE0 at h
  by_cases h1 : chk len bs = 0
  · rw [if_neg (by simpa using h1)] at h
    by_cases h2 : p < 0 ∨ len < p
    · rw [if_pos h2] at h; omega
    · obtain ⟨L, e1, e2, e3⟩ := chk_zero len bs hb h1
      exact ⟨L, p.toNat, e1, e2, e3, by omega, by omega⟩
  · rw [if_pos h1] at h; exact absurd h h1

set_option maxHeartbeats 1000000 in
theorem rread_e (len : Int) (A : Option Addr) (c : Nat) (bs : List Nat) (p a k m : Int) (w : World) (hb : ∀ b ∈ bs, b < 256) (hA : Rd w w.heap.size A bs) (e0 : Int) (he : rdE len bs p a k m = e0) (h0 : e0 ≠ 0) :
    Calls Try.prog 28 #[.agg #[.int .i64 len, .slice A bs.length c], .int .i64 p, .int .i64 a, .int .i64 k, .int .i64 m] w (RdP w [] 0 e0) := by
  have HC : Hid (∀ V, Below w.heap.size w V → Calls Try.prog 54 #[.agg #[.int .i64 len, .slice A bs.length c], .int .i64 p] V fun e w' => e = .returned (.int .i64 (rdE0 len bs p)) ∧ Below V.heap.size V w') := fun V hV => readErr_any len A c bs p V hb (hA.on hV) _ rfl
  have HN := Lib.hid (between_any a 0 1048576)
  have HK := Lib.hid (between_any k 1 16)
  have HM := Lib.hid (between_any m 0 300)
  rw [betw_N] at HN
  rw [betw_K] at HK
  rw [rdE_eq] at he
  have t0 : (e0 != 0) = true := by simpa using h0
  clear hA hb
  generalize bs.length = nb at *
  by_cases h1 : rdE0 len bs p = 0
  · rw [h1] at HC he
    rw [if_neg (by simp)] at he
    generalize okN a = on at *
    generalize okK k = ok at *
    generalize hmm : decide (0 ≤ m ∧ m ≤ 300) = mm at *
    have hbad : ¬ (on = true ∧ ok = true ∧ mm = true) := fun q => h0 (by
      have hq := q.2.2
      rw [← hmm] at hq
      rw [← he]
      exact if_pos ⟨q.1, q.2.1, by simpa using hq⟩)
    have he3 : e0 = 3 := by
      by_cases q : on = true ∧ ok = true ∧ 0 ≤ m ∧ m ≤ 300
      · rw [if_pos q] at he; exact absurd he.symm h0
      · rw [if_neg q] at he; exact he.symm
    subst he3
    clear he h0 h1 hmm t0
    cases on with
    | false =>
      go_enter Try.func28, Try.ntmps28
      go_wp2_with fail
      refine (HC.out _ (one_below w _)).mono ?_
      rintro e w1 ⟨rfl, B1⟩
      have HB1 : Hid (Below w.heap.size w w1) := (one_below w _).trans (B1.mono (by simp))
      clear B1
      go_wp2_with fail
      refine (HN.out _).mono ?_
      rintro e _ ⟨rfl, rfl⟩
      go_wp2
      go_ret3
      exact ⟨none, 0, rfl, Nat.le_refl _, fun _ => rfl, .inl rfl, HB1.out⟩
    | true =>
      cases ok with
      | false =>
        go_enter Try.func28, Try.ntmps28
        go_wp2_with fail
        refine (HC.out _ (one_below w _)).mono ?_
        rintro e w1 ⟨rfl, B1⟩
        have HB1 : Hid (Below w.heap.size w w1) := (one_below w _).trans (B1.mono (by simp))
        clear B1
        go_wp2_with fail
        refine (HN.out _).mono ?_
        rintro e _ ⟨rfl, rfl⟩
        go_wp2_with fail
        refine (HK.out _).mono ?_
        rintro e _ ⟨rfl, rfl⟩
        go_wp2
        go_ret3
        exact ⟨none, 0, rfl, Nat.le_refl _, fun _ => rfl, .inl rfl, HB1.out⟩
      | true =>
        cases mm with
        | true => exact absurd ⟨rfl, rfl, rfl⟩ hbad
        | false =>
          go_enter Try.func28, Try.ntmps28
          go_wp2_with fail
          refine (HC.out _ (one_below w _)).mono ?_
          rintro e w1 ⟨rfl, B1⟩
          have HB1 : Hid (Below w.heap.size w w1) := (one_below w _).trans (B1.mono (by simp))
          clear B1
          go_wp2_with fail
          refine (HN.out _).mono ?_
          rintro e _ ⟨rfl, rfl⟩
          go_wp2_with fail
          refine (HK.out _).mono ?_
          rintro e _ ⟨rfl, rfl⟩
          go_wp2_with fail
          refine (HM.out _).mono ?_
          rintro e _ ⟨rfl, rfl⟩
          go_wp2
          go_ret3
          exact ⟨none, 0, rfl, Nat.le_refl _, fun _ => rfl, .inl rfl, HB1.out⟩
  · rw [if_pos h1] at he
    rw [he] at HC
    have t1 : (e0 == 0) = false := by simpa using h0
    clear he h1 h0
    go_enter Try.func28, Try.ntmps28
    go_wp2_with fail
    refine (HC.out _ (one_below w _)).mono ?_
    rintro e w1 ⟨rfl, B1⟩
    have HB1 : Hid (Below w.heap.size w w1) := (one_below w _).trans (B1.mono (by simp))
    clear B1
    go_wp2
    go_ret3
    exact ⟨none, 0, rfl, Nat.le_refl _, fun _ => rfl, .inl rfl, HB1.out⟩

set_option maxHeartbeats 1000000 in
theorem rread_in (L : List Bool) (hL : L.length ≤ 8192) (p0 : Nat) (hp : p0 ≤ L.length) (a : Nat) (ha : a ≤ 1048576) (k : Nat) (hk : 1 ≤ k) (hk2 : k ≤ 16) (many : Nat) (hm : many ≤ 300) (R : List Nat) (to : Nat) (e0 : Int)
    (hR : rdG L k a many [] p0 = (R, to, e0)) (A : Option Addr) (c : Nat) (w : World) (hA : Rd w w.heap.size A (pack L)) :
    Calls Try.prog 28 #[.agg #[.int .i64 (L.length : Int), .slice A (pack L).length c], .int .i64 (p0 : Int), .int .i64 (a : Int), .int .i64 (k : Int), .int .i64 (many : Int)] w (RdP w R to e0) := by
  have HC : Hid (∀ V, Below w.heap.size w V → Calls Try.prog 54 #[.agg #[.int .i64 (L.length : Int), .slice A (pack L).length c], .int .i64 (p0 : Int)] V fun e w' => e = .returned (.int .i64 0) ∧ Below V.heap.size V w') := fun V hV => readErr_any _ A c (pack L) _ V (pack_lt L) (hA.on hV) 0 (by
    unfold rdE0; rw [chk_pack L hL, if_neg (by simp), if_neg (by omega)])
  have HN := Lib.hid (between_yes (a : Int) 0 1048576 (by omega))
  have HK := Lib.hid (between_yes (k : Int) 1 16 (by omega))
  have HM := Lib.hid (between_yes (many : Int) 0 300 (by omega))
  have HBL : Hid (∀ V, Below w.heap.size w V → Calls Try.prog 56 #[.agg #[.int .i64 (L.length : Int), .slice A (pack L).length c]] V (Listed V L)) := fun V hV => bitList_any L.length hL A (pack L).length c (pack L) rfl (by rw [pack_length]; omega) (pack_lt L) V (hA.on hV) L (unpack_pack L).symm
  have HF : Hid (∀ (A2 : Option Addr) (c2 : Nat) (V : World), RdV V V.heap.size A2 (ic L) → Calls Try.prog 55 #[.slice A2 L.length c2, .int .i64 (p0 : Int), .int .i64 (a : Int), .int .i64 (k : Int), .int .i64 (many : Int)] V (RdP V R to e0)) := fun A2 c2 V hV => gfrom_in L _ rfl hL p0 hp a ha k hk hk2 many hm R to e0 hR A2 c2 V hV
  clear hA hR hp hL
  generalize (pack L).length = nb at *
  generalize hln : L.length = ln at *
  have HLn := Lib.hid hln; clear hln
  go_enter Try.func28, Try.ntmps28
  go_wp2_with fail
  refine (HC.out _ (one_below w _)).mono ?_
  rintro e w1 ⟨rfl, B1⟩
  obtain ⟨pb, qb⟩ := box_at (w := w) (by rwa [World.size_alloc] at B1)
  have HB1 : Hid (Below w.heap.size w w1) := (one_below w _).trans (B1.mono (by simp))
  clear B1
  go_wp2_with fail
  refine (HN.out _).mono ?_
  rintro e _ ⟨rfl, rfl⟩
  go_wp2_with fail
  refine (HK.out _).mono ?_
  rintro e _ ⟨rfl, rfl⟩
  go_wp2_with fail
  refine (HM.out _).mono ?_
  rintro e _ ⟨rfl, rfl⟩
  go_wp2_with fail
  refine (HBL.out w1 HB1.out).mono ?_
  rintro e w2 ⟨A2, c2, rfl, O2, B2⟩
  rw [HLn.out]
  have HR2 := Lib.hid (own_rdv O2)
  have HB2 := Lib.hid (HB1.out.trans (B2.mono HB1.out.size))
  clear O2 B2
  go_wp2_with fail
  refine (HF.out A2 c2 w2 HR2.out).mono ?_
  rintro e w3 ⟨A3, c3, rfl, q1, q2, q3, B3⟩
  have HB3 := Lib.hid (HB2.out.trans (B3.mono HB2.out.size))
  have HR3 := Lib.hid q3
  clear B3 q3
  go_wp2
  go_ret3
  exact ⟨A3, c3, rfl, q1, q2, HR3.out, HB3.out⟩

/-- What is read, where it ends, the error: of whatever is handed in. -/
def rdX (len : Int) (bs : List Nat) (p a k m : Int) : List Nat × Nat × Int := if rdE len bs p a k m ≠ 0 then ([], 0, rdE len bs p a k m) else rdG (unpack len.toNat bs) k.toNat a.toNat m.toNat [] p.toNat
theorem rdE_zero (len : Int) (bs : List Nat) (hb : ∀ b ∈ bs, b < 256) (p a k m : Int) (h : rdE len bs p a k m = 0) : ∃ (L : List Bool) (q a' k' m' : Nat), len = (L.length : Int) ∧ L.length ≤ 8192 ∧ bs = pack L ∧ p = (q : Int) ∧ q ≤ L.length ∧ a = (a' : Int) ∧ a' ≤ 1048576 ∧ k = (k' : Int) ∧ 1 ≤ k' ∧ k' ≤ 16 ∧ m = (m' : Int) ∧ m' ≤ 300 := by
  rw [rdE_eq] at h
  by_cases h1 : rdE0 len bs p = 0
  · rw [if_neg (by simpa using h1)] at h
    by_cases h2 : okN a = true ∧ okK k = true ∧ 0 ≤ m ∧ m ≤ 300
    · obtain ⟨L, q, e1, e2, e3, e4, e5⟩ := rdE0_zero len bs hb p h1
      obtain ⟨a', e6, e7⟩ := okN_true h2.1
      obtain ⟨k', e8, e9, e10⟩ := okK_true h2.2.1
      exact ⟨L, q, a', k', m.toNat, e1, e2, e3, e4, e5, e6, e7, e8, e9, e10, by omega, by omega⟩
    · rw [if_neg h2] at h; omega
  · rw [if_pos h1] at h; exact absurd h h1
def RdN (w : World) (n : Nat) (l : List Nat) (to : Nat) (err : Int) (e : Ending) (w' : World) : Prop :=
  ∃ A c, e = .returned (.tuple #[.slice A n c, .int .i64 (to : Int), .int .i64 err]) ∧ RdV w' w'.heap.size A (zc (ns l)) ∧ Below w.heap.size w w'
theorem rdN {w : World} {l : List Nat} {to : Nat} {err : Int} {e : Ending} {w' : World} {n : Nat} (h : RdP w l to err e w') (hn : l.length = n) : RdN w n l to err e w' := by
  obtain ⟨A, c, he, -, -, r, b⟩ := h; subst hn; exact ⟨A, c, he, r, b⟩
set_option maxHeartbeats 2000000 in
theorem gapsRead_law (len : Int) (A : Option Addr) (c : Nat) (bs : List Nat) (p a k m : Int) (w : World) (hb : ∀ b ∈ bs, b < 256) (hA : Rd w w.heap.size A bs) (hp : -9223372036854775808 ≤ p ∧ p ≤ 9223372036854775807) (ha : -9223372036854775808 ≤ a ∧ a ≤ 9223372036854775807) (hk : -9223372036854775808 ≤ k ∧ k ≤ 9223372036854775807) (hm : -9223372036854775808 ≤ m ∧ m ≤ 9223372036854775807) :
    Calls Try.prog 4 #[.agg #[.int .i64 len, .slice A bs.length c], .int .i64 p, .int .i64 a, .int .i64 k, .int .i64 m] w fun e w' => e = .returned (.bool true) ∧ Below w.heap.size w w' := by
  obtain ⟨R, to, e0, H1, H2, hR⟩ : ∃ (R : List Nat) (to : Nat) (e0 : Int), Hid (∀ V, Rd V V.heap.size A bs → Calls Try.prog 27 #[.agg #[.int .i64 len, .slice A bs.length c], .int .i64 p, .int .i64 a, .int .i64 k, .int .i64 m] V (RdP V R to e0)) ∧
      Hid (∀ V, Rd V V.heap.size A bs → Calls Try.prog 28 #[.agg #[.int .i64 len, .slice A bs.length c], .int .i64 p, .int .i64 a, .int .i64 k, .int .i64 m] V (RdP V R to e0)) ∧ R.length ≤ 300 := by
    by_cases h0 : rdE len bs p a k m = 0
    · obtain ⟨L, q, a', k', m', rfl, e2, rfl, rfl, e5, rfl, e7, rfl, e9, e10, rfl, e12⟩ := rdE_zero len bs hb p a k m h0
      obtain ⟨R, to, e0, hR⟩ : ∃ R to e0, rdG L k' a' m' [] q = (R, to, e0) := ⟨_, _, _, rfl⟩
      refine ⟨R, to, e0, fun V hV => gread_in L e2 q e5 a' e7 k' e9 e10 m' e12 R to e0 hR A c V hV, fun V hV => rread_in L e2 q e5 a' e7 k' e9 e10 m' e12 R to e0 hR A c V hV, ?_⟩
      have key : ∀ (n : Nat) (l : List Nat) (s : Nat) (R : List Nat) (to : Nat) (e0 : Int), rdG L k' a' n l s = (R, to, e0) → R.length ≤ l.length + n := by
        intro n
        induction n with
        | zero => intro l s R to e0 h; unfold rdG at h; cases h; omega
        | succ n ih =>
          intro l s R to e0 h
          rw [rdG_succ] at h
          split at h
          · cases h; simp
          · split at h
            · cases h; simp
            · have := ih _ _ _ _ _ h; simp at this; omega
      have := key m' [] q R to e0 hR
      simp at this; omega
    · exact ⟨[], 0, _, fun V hV => gread_bad len A c bs.length bs p a k m V hV _ rfl h0 (fun V hV => check_any len A c bs V hb hV), fun V hV => rread_e len A c bs p a k m V hb hV _ rfl h0, by simp⟩
  have HSI : Hid (∀ (A1 A2 : Option Addr) (c1 c2 : Nat) (V : World), RdV V V.heap.size A1 (zc (ns R)) → RdV V V.heap.size A2 (zc (ns R)) → Calls Try.prog 25 #[.slice A1 R.length c1, .slice A2 R.length c2] V fun e w' => e = .returned (.bool true) ∧ Below V.heap.size V w') := fun A1 A2 c1 c2 V h1 h2 => sameI_x (ns R) _ (ns_length R) (by omega) A1 A2 c1 c2 V h1 h2
  have H1' : Hid (∀ V, Rd V V.heap.size A bs → Calls Try.prog 27 #[.agg #[.int .i64 len, .slice A bs.length c], .int .i64 p, .int .i64 a, .int .i64 k, .int .i64 m] V (RdN V R.length R to e0)) := fun V hV => (H1.out V hV).mono fun _ _ q => rdN q rfl
  have H2' : Hid (∀ V, Rd V V.heap.size A bs → Calls Try.prog 28 #[.agg #[.int .i64 len, .slice A bs.length c], .int .i64 p, .int .i64 a, .int .i64 k, .int .i64 m] V (RdN V R.length R to e0)) := fun V hV => (H2.out V hV).mono fun _ _ q => rdN q rfl
  have HA := Lib.hid hA
  clear H1 H2 hA hb hR hp ha hk hm
  generalize R.length = nR at *
  generalize bs.length = nb at *
  go_enter Try.func4, Try.ntmps4
  go_wp2_with fail
  refine (H1'.out _ (HA.out.on (one_below w _))).mono ?_
  rintro e w1 ⟨A1, c1, rfl, r1, B1⟩
  obtain ⟨pb, qb⟩ := box_at (w := w) (by rwa [World.size_alloc] at B1)
  have HB1 : Hid (Below w.heap.size w w1) := (one_below w _).trans (B1.mono (by simp))
  have HR1 := Lib.hid r1
  clear B1 r1
  go_wp2_with fail
  refine (H2'.out _ (HA.out.on HB1.out)).mono ?_
  rintro e w2 ⟨A2, c2, rfl, r2, B2⟩
  have HB2 := Lib.hid (HB1.out.trans (B2.mono HB1.out.size))
  replace HR1 := Lib.hid (HR1.out.on B2)
  have HR2 := Lib.hid r2
  clear B2 r2 pb qb
  go_wp2_with fail
  refine (gapsbegun_true _).mono ?_
  rintro e w3 ⟨rfl, B3⟩
  replace HR1 := Lib.hid (HR1.out.on B3)
  replace HR2 := Lib.hid (HR2.out.on B3)
  have HB3 := Lib.hid (HB2.out.trans (B3.mono HB2.out.size))
  clear B3
  go_wp2_with fail
  refine (HSI.out A1 A2 c1 c2 _ HR1.out HR2.out).mono ?_
  rintro e w4 ⟨rfl, B4⟩
  have HB4 := Lib.hid (HB3.out.trans (B4.mono HB3.out.size))
  clear B4
  go_wp2
  go_ret
  exact ⟨rfl, HB4.out⟩
end Go.Proofs.Ythldcdcpflamaaa
