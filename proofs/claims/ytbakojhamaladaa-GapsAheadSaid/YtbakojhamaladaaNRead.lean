/- What Read of gaps answers, for whatever bits and numbers it is handed. -/
import Derived.Test.YtbakojhamaladaaNWrite
import Derived.Test.YtbakojhamaladaaGRead2
namespace Go.Proofs.Ytbakojhamaladaa
set_option maxRecDepth 100000
set_option linter.unusedVariables false
open Go.RowKit Go.Shelf

/-- A list that is read from a place on, behind what is read already; where it ends; an error. -/
def rdG (L : List Bool) (k a : Nat) : Nat → List Nat → Nat → List Nat × Nat × Int
  | 0, l, s => (l, s, 0)
  | m + 1, l, s => if (zetR L s k).2.2 ≠ 0 then ([], 0, (zetR L s k).2.2) else if elE l (zetR L s k).1 a ≠ 0 then ([], 0, 3) else rdG L k a m (l ++ [(el l (zetR L s k).1 a).toNat]) (zetR L s k).2.1
theorem rdG_succ (L : List Bool) (k a m : Nat) (l : List Nat) (s : Nat) : rdG L k a (m + 1) l s = if (zetR L s k).2.2 ≠ 0 then ([], 0, (zetR L s k).2.2) else if elE l (zetR L s k).1 a ≠ 0 then ([], 0, 3) else rdG L k a m (l ++ [(el l (zetR L s k).1 a).toNat]) (zetR L s k).2.1 := rfl
theorem zetR_bd (l : List Bool) (s k : Nat) (hs : s ≤ l.length) (hk : 1 ≤ k) : (zetR l s k).1 ≤ 1099511627776 ∧ (zetR l s k).2.1 ≤ l.length ∧ ((zetR l s k).2.2 = 0 ∨ (zetR l s k).2.2 = 3 ∨ (zetR l s k).2.2 = 7) := by
  obtain ⟨b1, b2, b3⟩ := uR_bound l s hs
  unfold zetR
  split
  · simp only; omega
  · split
    · simp
    · obtain ⟨c1, c2, c3⟩ := lstR_bound l (uR l s).2.1 (zq (uR l s).1 k) (zq_pos _ _ hk) b2
      unfold remR
      simp only
      split
      · simp only; omega
      · split
        · simp
        · rename_i h1 h2
          simp only at h2 ⊢
          exact ⟨by omega, c1, .inl trivial⟩
/-- Bits that are the codes of the gaps of a list are read. -/
theorem rdG_gaps (k a : Nat) (hk : 1 ≤ k) (t : List Bool) : ∀ (gs : List Nat) (p : List Bool) (m l : List Nat), (∀ g ∈ gs, g ≤ 2097152) → bk a m gs = some l →
    rdG (p ++ (zets k gs ++ t)) k a gs.length m p.length = (l, p.length + (zets k gs).length, 0)
  | [], p, m, l, _, h => by unfold bk at h; cases h; simp [rdG, zets]
  | g :: gs, p, m, l, hg, h => by
    have e := zetR_zet p (zets k gs ++ t) g k hk (by have := hg g (by simp); omega)
    rw [← List.append_assoc (zet g k), ← zets_cons] at e
    unfold bk at h
    split at h
    · rename_i he
      rw [List.length_cons]
      unfold rdG
      rw [e]
      simp only
      rw [if_neg (by simp), if_neg (by simpa using he)]
      have ih := rdG_gaps k a hk t gs (p ++ zet g k) _ l (fun x hx => hg x (by simp [hx])) h
      rw [List.length_append, List.append_assoc, ← List.append_assoc (zet g k), ← zets_cons] at ih
      rw [ih, zets_cons, List.length_append]
      congr 2
      omega
    · cases h

theorem range6 (e : Int) (a b c d f g : Bool) (r : Int) (hr : rgE e [a, b, c, d, f, g] = r) (w : World) (B : Nat) (hB : w.heap.size = B) :
    Calls Try.prog 64 #[.int .i64 e, .slice (some ⟨B, 0, none⟩) 6 6] (w.alloc (.cells #[.bool a, .bool b, .bool c, .bool d, .bool f, .bool g] 4)) fun x w' => x = .returned (.int .i64 r) ∧ Below w.heap.size w w' :=
  hB ▸ range_on e [a, b, c, d, f, g] 6 rfl (by decide) r hr w
/-- The error of Read ahead of its numbers. -/
def rdE (len : Int) (bs : List Nat) (p a k m : Int) : Int := rgE (chk len bs) [decide (0 ≤ p), decide (p ≤ len), okN a, okK k, decide (0 ≤ m), decide (m ≤ 300)]
/-- A list, a place and an error come back. -/
def RdP (w : World) (l : List Nat) (to : Nat) (err : Int) (e : Ending) (w' : World) : Prop :=
  ∃ A c, e = .returned (.tuple #[.slice A l.length c, .int .i64 (to : Int), .int .i64 err]) ∧ l.length ≤ c ∧ (A = none → c = 0) ∧ RdV w' w'.heap.size A (zc (ns l)) ∧ Below w.heap.size w w'
set_option maxHeartbeats 1000000 in
theorem gread_bad (len : Int) (A : Option Addr) (c N : Nat) (bs : List Nat) (p a k m : Int) (w : World) (hA : Rd w w.heap.size A bs) (e0 : Int) (he : rdE len bs p a k m = e0) (h0 : e0 ≠ 0)
    (HC : Hid (∀ V, Rd V V.heap.size A bs → Calls Try.prog 76 #[.agg #[.int .i64 len, .slice A N c]] V fun e w' => e = .returned (.int .i64 (chk len bs)) ∧ Below V.heap.size V w')) :
    Calls Try.prog 31 #[.agg #[.int .i64 len, .slice A N c], .int .i64 p, .int .i64 a, .int .i64 k, .int .i64 m] w (RdP w [] 0 e0) := by
  have HA := Lib.hid hA; clear hA
  have HN := Lib.hid (node_any a)
  have HO := Lib.hid (isK_any k)
  unfold rdE at he
  generalize chk len bs = ec at *
  generalize okN a = on at *
  generalize okK k = ok at *
  have HR := Lib.hid (range6 ec (decide (0 ≤ p)) (decide (p ≤ len)) on ok (decide (0 ≤ m)) (decide (m ≤ 300)) e0 he)
  clear he
  go_enter Try.func31, Try.ntmps31
  go_wp2_with fail
  generalize hV : w.alloc (.cells #[.int .i64 len, .slice A N c] 31) = V0
  have HV : Hid (Below w.heap.size w V0) := hV ▸ one_below _ _
  have HVs : Hid (w.heap.size + 1 = V0.heap.size) := by show _ = _; rw [← hV, World.size_alloc]
  have HK : Hid (∀ w' : World, Below V0.heap.size V0 w' → w'.cell? ⟨w.heap.size, 0, none⟩ = some (.int .i64 len) ∧ w'.cell? ⟨w.heap.size, 1, none⟩ = some (.slice A N c)) := by
    subst hV
    exact fun w' h => box_at (by rwa [World.size_alloc] at h)
  clear hV
  go_region_held3 (fun w' => w'.cell? ⟨w.heap.size, 0, none⟩ = some (.int .i64 len) ∧ w'.cell? ⟨w.heap.size, 1, none⟩ = some (.slice A N c))
    ((refine HK.out _ ?_; first | exact hk2.out | exact hk1.out.trans ((one_below _ _).mono hk1.out.size) | exact hk1.out | exact (Below.refl _ _).drew))
    (first
      | (go_at_call 64; have hx := hk1.out; refine (HR.out w1 _ rfl).mono ?_; rintro e w2 ⟨rfl, B2⟩; have hk2 : Hid (Below V0.heap.size V0 w2) := hx.trans (B2.mono hx.size); clear B2 hx)
      | (go_at_call 65; have hx := hk1.out; refine (HN.out w1).mono ?_; rintro e _ ⟨rfl, rfl⟩; clear hx)
      | (go_at_call 68; have hx := hk1.out; refine (HO.out w1).mono ?_; rintro e _ ⟨rfl, rfl⟩; clear hx)
      | (go_at_call 76; refine (HC.out V0.drew (HA.out.on HV.out.drew)).mono ?_; rintro e w1 ⟨rfl, B1⟩; have hk1 : Hid (Below V0.heap.size V0 w1) := ((Below.refl _ V0).drew).trans B1; clear B1))
  obtain ⟨p1, q1⟩ := HK.out w2 hk2.out
  have HB2 : Hid (Below w.heap.size w w2) := HV.out.trans (hk2.out.mono HV.out.size)
  have t0 : (e0 != 0) = true := by simpa using h0
  clear h0 HK hk1 hk2 p1 q1
  go_wp2
  go_ret3
  exact ⟨none, 0, rfl, Nat.le_refl _, fun _ => rfl, .inl rfl, HB2.out⟩

/-- At each round's head: what the first i numbers are. -/
def RdRel (L : List Bool) (k a many p0 : Nat) (V0 : World) (fr v p : Value) (wr : World) : Prop :=
  ∃ (i : Nat) (l : List Nat) (s : Nat), i ≤ many ∧ p = .int .i64 (i : Int) ∧ fr = .int .i64 (s : Int) ∧ s ≤ L.length ∧ l.length = i ∧ (∀ x ∈ l, x ≤ 1048576) ∧ rdG L k a many [] p0 = rdG L k a (many - i) l s ∧
    wr.ownsRow V0.heap.size 3 1 v i (zc (ns l)) ∧ Below V0.heap.size V0 wr
set_option maxHeartbeats 4000000 in
theorem gread_in (L : List Bool) (hL : L.length ≤ 8192) (p0 : Nat) (hp : p0 ≤ L.length) (a : Nat) (ha : a ≤ 1048576) (k : Nat) (hk : 1 ≤ k) (hk2 : k ≤ 16) (many : Nat) (hm : many ≤ 300) (R : List Nat) (to : Nat) (e0 : Int)
    (hR : rdG L k a many [] p0 = (R, to, e0)) (A : Option Addr) (c : Nat) (w : World) (hA : Rd w w.heap.size A (pack L)) :
    Calls Try.prog 31 #[.agg #[.int .i64 (L.length : Int), .slice A (pack L).length c], .int .i64 (p0 : Int), .int .i64 (a : Int), .int .i64 (k : Int), .int .i64 (many : Int)] w (RdP w R to e0) := by
  have HC : Hid (∀ V, Rd V V.heap.size A (pack L) → Calls Try.prog 76 #[.agg #[.int .i64 (L.length : Int), .slice A (pack L).length c]] V fun e w' => e = .returned (.int .i64 0) ∧ Below V.heap.size V w') := fun V hV => check_l L hL A c V hV
  have HZ : Hid (∀ s V, s ≤ L.length → Rd V V.heap.size A (pack L) → Calls Try.prog 44 #[.agg #[.int .i64 (L.length : Int), .slice A (pack L).length c], .int .i64 (s : Int), .int .i64 (k : Int)] V (ReadP V (zetR L s k).1 (zetR L s k).2.1 (zetR L s k).2.2)) := fun s V hs hV => rzeta_l L hL k hk hk2 A c s hs V hV
  have hn0 := node_any (a : Int)
  rw [okN_nat a ha] at hn0
  have HN := Lib.hid hn0; clear hn0
  have hk0 := isK_any (k : Int)
  rw [okK_nat k hk hk2] at hk0
  have HO := Lib.hid hk0; clear hk0
  have HR := Lib.hid (range6 0 true true true true true true 0 rfl)
  obtain ⟨i0, hi, hz0, hz1, hz2⟩ := info_parts info3
  have HA := Lib.hid hA; clear hA
  have HRes := Lib.hid hR; clear hR
  have HP0 := Lib.hid hp; clear hp
  generalize hll : L.length = len at *
  generalize hpl : (pack L).length = NB at *
  have HLL := Lib.hid hll; clear hll hpl
  have t1 : decide ((p0 : Int) ≤ (len : Int)) = true := by have := HP0.out; have := HLL.out; simp; omega
  have t2 : decide (p0 ≤ len) = true := by have := HP0.out; have := HLL.out; simp; omega
  have t3 : decide ((many : Int) ≤ 300) = true := by simp; omega
  have t4 : decide (many ≤ 300) = true := by simp; omega
  go_enter Try.func31, Try.ntmps31
  go_wp2_with fail
  generalize hV : w.alloc (.cells #[.int .i64 (len : Int), .slice A NB c] 31) = V0
  have HV : Hid (Below w.heap.size w V0) := hV ▸ one_below _ _
  have HVs : Hid (w.heap.size + 1 = V0.heap.size) := by show _ = _; rw [← hV, World.size_alloc]
  have HK : Hid (∀ w' : World, Below V0.heap.size V0 w' → w'.cell? ⟨w.heap.size, 0, none⟩ = some (.int .i64 (len : Int)) ∧ w'.cell? ⟨w.heap.size, 1, none⟩ = some (.slice A NB c)) := by
    subst hV
    exact fun w' h => box_at (by rwa [World.size_alloc] at h)
  clear hV
  go_region_held3 (fun w' => w'.cell? ⟨w.heap.size, 0, none⟩ = some (.int .i64 (len : Int)) ∧ w'.cell? ⟨w.heap.size, 1, none⟩ = some (.slice A NB c))
    ((refine HK.out _ ?_; first | exact hk2.out | exact hk1.out.trans ((one_below _ _).mono hk1.out.size) | exact hk1.out | exact (Below.refl _ _).drew))
    (first
      | (go_at_call 64; have hx := hk1.out; refine (HR.out w1 _ rfl).mono ?_; rintro e w2 ⟨rfl, B2⟩; have hk2 : Hid (Below V0.heap.size V0 w2) := hx.trans (B2.mono hx.size); clear B2 hx)
      | (go_at_call 65; have hx := hk1.out; refine (HN.out w1).mono ?_; rintro e _ ⟨rfl, rfl⟩; clear hx)
      | (go_at_call 68; have hx := hk1.out; refine (HO.out w1).mono ?_; rintro e _ ⟨rfl, rfl⟩; clear hx)
      | (go_at_call 76; refine (HC.out V0.drew (HA.out.on HV.out.drew)).mono ?_; rintro e w1 ⟨rfl, B1⟩; have hk1 : Hid (Below V0.heap.size V0 w1) := ((Below.refl _ V0).drew).trans B1; clear B1))
  have HB2 := Lib.hid hk2.out
  clear hk1 hk2 t1 t2 t3 t4
  go_wp2
  go_loopw [1, 14, 41] (fun fr v p wr => RdRel L k a many p0 V0 fr v p wr) (fun _ _ p _ => many - (intOf p).toNat)
  case atStart => exact ⟨0, [], p0, Nat.zero_le _, rfl, rfl, by rw [HLL.out]; exact HP0.out, rfl, by simp, rfl, ⟨rfl, .inl ⟨rfl, rfl⟩⟩, HB2.out⟩
  case round =>
    obtain ⟨i, l, s, him, rfl, rfl, hs, hli, hle, hrd, hrow, hbel⟩ := hrel
    rw [HLL.out] at hs
    by_cases hlt : i < many
    · obtain ⟨p1, q1⟩ := HK.out wr hbel
      have hZ := HZ.out s wr hs (HA.out.on (HV.out.trans (hbel.mono HV.out.size)))
      obtain ⟨b1, b2, b3⟩ := zetR_bd L s k (by rw [HLL.out]; exact hs) hk
      rw [HLL.out] at b2
      obtain ⟨j, hj⟩ : ∃ j, many - i = j + 1 := ⟨many - i - 1, by omega⟩
      rw [hj, rdG_succ] at hrd
      have hj2 : many - (i + 1) = j := by omega
      have HB := Lib.hid hbel; clear hbel
      generalize (zetR L s k).1 = g at *
      generalize (zetR L s k).2.1 = s2 at *
      generalize (zetR L s k).2.2 = ez at *
      obtain ⟨Av, cv, rfl⟩ := own_slice3 hrow
      have HRow := Lib.hid hrow
      by_cases hz : ez = 0
      · subst hz
        rw [if_neg (by omega)] at hrd
        have hE := fun V hV => elem_any l i hli (by omega) hle g (by omega) a ha Av cv V hV
        unfold elV at hE
        by_cases h0 : elE l g a = 0
        · rw [if_neg (by omega)] at hrd
          rw [h0, if_pos rfl] at hE
          have hel : ∃ x : Nat, el l g a = (x : Int) ∧ x ≤ 1048576 := by
            unfold elE at h0
            split at h0
            · omega
            · exact ⟨(el l g a).toNat, by omega, by omega⟩
          obtain ⟨x, hx, hx2⟩ := hel
          rw [hx] at hE
          rw [hx, Int.toNat_natCast] at hrd
          have HE := Lib.hid hE; have HRd := Lib.hid hrd; have HZ2 := Lib.hid hZ
          have HLe := Lib.hid hle; have HLi := Lib.hid hli; have HJ2 := Lib.hid hj2
          clear hE hrd hZ hle hli hx h0 hj hj2 b3 hrow
          go_wp2_with fail
          refine HZ2.out.mono ?_
          rintro e w3 ⟨rfl, B3⟩
          have HB3 : Hid (Below V0.heap.size V0 w3) := HB.out.trans (B3.mono HB.out.size)
          have HRow3 := Lib.hid (own_below HRow.out B3)
          have hz3 : V0.heap.size ≤ w3.heap.size := Nat.le_trans HB.out.size B3.size
          clear B3 p1 q1
          have hrow := HRow3.out
          go_wp2_with fail
          refine (HE.out _ (own_rdv HRow3.out)).mono ?_
          rintro e _ ⟨rfl, rfl⟩
          go_wp2_with (at_builtin; refine wpList_append_own _ rfl _ _ 22 rfl V0.heap.size 3 i0 (.int .i64 0) 1 8 Try.underlying22 hi hz0 hz1 hz2 rfl (by decide) _ _ _ rfl (hrow.alloc _) ⟨w3.heap.size, 0, none⟩ 1 1 [.int .i64 (x : Int)] rfl rfl (news_row w3 [.int .i64 (x : Int)] _) (by simp [Value.oneCell']) (by unfold maxLen; omega) (by omega) (by simp; omega) ?_; intro v' w4 hown' hgrow _)
          have hzz : zc (ns l) ++ [Value.int .i64 (x : Int)] = zc (ns (l ++ [x])) := by rw [ns_append, zc_append]; rfl
          rw [hzz] at hown'
          have HO4 := Lib.hid hown'
          have HB4 : Hid (Below V0.heap.size V0 w4) := HB3.out.trans (((Below.refl V0.heap.size w3).alloc hz3 _).trans (grown_low hgrow (hrow.alloc _) (by simp; omega)))
          clear hown' hgrow hrow hzz
          go_roundw
          case rel => exact ⟨i + 1, l ++ [x], s2, by omega, by go_num, rfl, by rw [HLL.out]; exact b2, by rw [List.length_append, HLi.out]; rfl, fun y hy => by
            rcases List.mem_append.1 hy with h | h
            · exact HLe.out y h
            · obtain rfl : y = x := by simpa using h
              exact hx2, by rw [HJ2.out]; exact HRd.out, HO4.out, HB4.out⟩
          case measure => simp [intOf]; omega
        · have h3 : elE l g a = 3 := by rcases elE_or l g a with h | h <;> omega
          rw [if_pos h0] at hrd
          rw [h3, if_neg (by omega)] at hE
          have HE := Lib.hid hE; have HZ2 := Lib.hid hZ
          have hres := HRes.out.symm.trans hrd
          simp only [Prod.mk.injEq] at hres
          obtain ⟨rfl, rfl, rfl⟩ := hres
          clear hE hrd hZ hle hli h3 h0 hj hj2 b3 hrow HRes
          go_wp2_with fail
          refine HZ2.out.mono ?_
          rintro e w3 ⟨rfl, B3⟩
          have HB3 : Hid (Below V0.heap.size V0 w3) := HB.out.trans (B3.mono HB.out.size)
          have HRow3 := Lib.hid (own_below HRow.out B3)
          clear B3 p1 q1
          go_wp2_with fail
          refine (HE.out _ (own_rdv HRow3.out)).mono ?_
          rintro e _ ⟨rfl, rfl⟩
          go_wp2
          go_ret3
          exact ⟨none, 0, rfl, Nat.le_refl _, fun _ => rfl, .inl rfl, HV.out.trans (HB3.out.mono HV.out.size)⟩
      · rw [if_pos hz] at hrd
        have HZ2 := Lib.hid hZ
        have hres := HRes.out.symm.trans hrd
        simp only [Prod.mk.injEq] at hres
        have t0 : (ez != 0) = true := by simpa using hz
        clear hz
        obtain ⟨rfl, rfl, rfl⟩ := hres
        clear hrd hZ hle hli hj hj2 b3 hrow HRes
        go_wp2_with fail
        refine HZ2.out.mono ?_
        rintro e w3 ⟨rfl, B3⟩
        have HB3 : Hid (Below V0.heap.size V0 w3) := HB.out.trans (B3.mono HB.out.size)
        clear B3 p1 q1
        go_wp2
        go_ret3
        exact ⟨none, 0, rfl, Nat.le_refl _, fun _ => rfl, .inl rfl, HV.out.trans (HB3.out.mono HV.out.size)⟩
    · obtain rfl : i = many := by omega
      rw [Nat.sub_self] at hrd
      have hres := HRes.out.symm.trans hrd
      simp only [rdG, Prod.mk.injEq] at hres
      obtain ⟨rfl, rfl, rfl⟩ := hres
      obtain ⟨Av, cv, rfl⟩ := own_slice3 hrow
      have HO := Lib.hid hrow
      have HB := Lib.hid hbel
      have HLi := Lib.hid hli
      clear hrow hbel hrd hli hle HRes
      go_wp2
      go_ret3
      exact ⟨Av, cv, (by rw [HLi.out]; rfl), by rw [HLi.out]; exact own_cap HO.out, own_none HO.out, own_rdv HO.out, HV.out.trans (HB.out.mono HV.out.size)⟩
end Go.Proofs.Ytbakojhamaladaa
