/- The document's own answer on whether codes are apart: KraftApart, where all bits are right. -/
import Derived.Test.YthfjfkbolfnkkaaKRefE
import Derived.Test.YthfjfkbolfnkkaaKSame
import Derived.Test.YthfjfkbolfnkkaaRefGen
import Derived.Deep.RegionHeld3
namespace Go.Proofs.Ythfjfkbolfnkkaa
set_option maxRecDepth 100000
set_option linter.unusedVariables false
open Go.RowKit Go.Shelf Go.Sort

/-- Two of a list of bits: does the one begin with the other? -/
def okp (ls : List (List Bool)) (i k : Nat) : Prop := i ≠ k → ls[i]?.getD [] ≠ [] → ls[k]?.getD [] ≠ [] → ¬ (ls[k]?.getD [] <+: ls[i]?.getD [])
theorem apart_okp (ls : List (List Bool)) (n : Nat) (hn : ls.length = n) : apart ls ↔ ∀ i, i < n → ∀ k, k < n → okp ls i k := by
  subst hn
  rw [apart_iff]
  exact ⟨fun h i hi k hk => h i k hi hk, fun h i k hi hk => h i hi k hk⟩
def ListN (w : World) (n : Nat) (l : List Bool) (e : Ending) (w' : World) : Prop :=
  ∃ A c, e = .returned (.slice A n c) ∧ n ≤ c ∧ RdV w' w'.heap.size A (ic l) ∧ Below w.heap.size w w'
theorem bitList_n (l : List Bool) (hl : l.length ≤ 8192) (n m : Nat) (hn : l.length = n) (hm : (pack l).length = m) (A : Option Addr) (c : Nat) (V : World) (h : Rd V V.heap.size A (pack l)) :
    Calls Try.prog 54 #[.agg #[.int .i64 (n : Int), .slice A m c]] V (ListN V n l) := by
  subst hn hm
  exact (bitList_any l.length hl A (pack l).length c (pack l) rfl (by rw [pack_length]; omega) (pack_lt l) V h l (unpack_pack l).symm).mono fun _ _ ⟨A', c', h1, h2, h3⟩ => ⟨A', c', h1, own_cap h2, own_rdv h2, h3⟩
def RpO (ls : List (List Bool)) (n : Nat) (w : World) (p : Value) (wr : World) : Prop :=
  ∃ i : Nat, i ≤ n ∧ p = .int .i64 (i : Int) ∧ (∀ i', i' < i → ∀ k, k < n → okp ls i' k) ∧ Below w.heap.size w wr
def RpI (ls : List (List Bool)) (n i : Nat) (w : World) (p : Value) (wr : World) : Prop :=
  ∃ k : Nat, k ≤ n ∧ p = .int .i64 (k : Int) ∧ (∀ k', k' < k → okp ls i k') ∧ Below w.heap.size w wr
theorem below_drewN {B : Nat} {w X : World} (h : Below B w X) (k : Nat) : Below B w (X.drewN k) := ⟨h.os, h.tape, h.output, h.size, h.block⟩
def Rp1 (n : Nat) (w : World) (p : Value) (wr : World) : Prop := ∃ i : Nat, i ≤ n ∧ p = .int .i64 (i : Int) ∧ Below w.heap.size w wr
set_option maxHeartbeats 4000000 in
theorem refapart_ok (bs : List Bx) (n : Nat) (hn : bs.length = n) (h64 : n ≤ 64) (A : Option Addr) (c : Nat) (w : World) (h : RdR w w.heap.size A (bs.map rx)) (h8 : ∀ x ∈ bs, x.1.length ≤ 8192) (r : Bool) (hr : r = true ↔ apart (bs.map (fun x => x.1))) :
    Calls Try.prog 19 #[.slice A n c] w fun e w' => e = .returned (.tuple #[.bool r, .int .i64 0]) ∧ Below w.heap.size w w' := by
  rw [apart_okp _ n (by rw [List.length_map]; exact hn)] at hr
  have t0 : decide ((64 : Int) < (n : Int)) = false := by simp; omega
  have t1 : decide (64 < n) = false := by simp; omega
  have HR := Lib.hid h; have HN := Lib.hid hn; have H8 := Lib.hid h8; have HRr := Lib.hid hr
  have HAt : Hid (∀ i, i < n → ∀ V, Below w.heap.size w V → ∃ b off, A = some ⟨b, off, none⟩ ∧ b < V.heap.size ∧ V.cell? ⟨b, off + i * 2, none⟩ = some (.int .i64 ((bAt bs i).1.length : Int)) ∧ V.cell? ⟨b, off + i * 2 + 1, none⟩ = some (.slice (bAt bs i).2.1 (pack (bAt bs i).1).length (bAt bs i).2.2) ∧ Rd V V.heap.size (bAt bs i).2.1 (pack (bAt bs i).1)) := fun i hi V hV => by
    have hxi : (bs.map rx)[i]? = some (rx (bAt bs i)) := by rw [List.getElem?_map]; unfold bAt; rw [List.getElem?_eq_getElem (by omega)]; rfl
    obtain ⟨b, off, e, hbl, k0, k1, k2⟩ := (h.below hV hV.size).at_ hxi
    exact ⟨b, off, e, hbl, k0, k1, k2⟩
  have H8' : Hid (∀ i, (bAt bs i).1.length ≤ 8192) := fun i => by
    unfold bAt
    rcases Nat.lt_or_ge i bs.length with q | q
    · rw [List.getElem?_eq_getElem q]; exact h8 _ (List.getElem_mem q)
    · rw [List.getElem?_eq_none q]; simp
  have HLs : Hid (∀ i, (bs.map (fun x => x.1))[i]?.getD [] = (bAt bs i).1) := fun i => by
    unfold bAt; rw [List.getElem?_map]; cases bs[i]? <;> rfl
  generalize bs.map (fun x => x.1) = ls at *
  clear h hn h8 hr HR
  go_enter Try.func19, Try.ntmps19
  go_wp2
  clear t0 t1
  go_loopw [4] (fun p wr => Rp1 n w p wr) (fun p _ => n - (intOf p).toNat)
  case atStart => exact ⟨0, Nat.zero_le _, rfl, Below.refl _ _⟩
  case round =>
    obtain ⟨i, hi, rfl, hbel⟩ := hrel
    by_cases hlt : i < n
    · obtain ⟨b, off, rfl, hbl, k0, k1, k2⟩ := HAt.out i hlt wr hbel
      have h8 := H8'.out i
      have HC0 := rcheck_any ((bAt bs i).1.length : Int) (bAt bs i).2.1 (bAt bs i).2.2 (pack (bAt bs i).1) (pack_lt _) wr k2
      rw [chk_pack _ h8] at HC0
      have HC := Lib.hid HC0
      clear HC0 k2 h8
      generalize (pack (bAt bs i).1).length = M at *
      generalize (bAt bs i).1.length = N at *
      generalize (bAt bs i).2.1 = A1 at *
      generalize (bAt bs i).2.2 = c1 at *
      have HB := Lib.hid hbel
      have t1 : decide ((i : Int) < (n : Int)) = true := by simp; omega
      have t2 : decide (i < n) = true := by simpa using hlt
      have t3 : (0 : Int) ≤ (i : Int) := by omega
      have t4 : (i : Int) < (n : Int) := by omega
      clear hbel
      go_wp2_with fail
      refine HC.out.mono ?_
      rintro e w1 ⟨rfl, b1⟩
      have HB1 : Hid (Below w.heap.size w w1) := HB.out.trans (b1.mono HB.out.size)
      clear b1
      go_wp2
      go_roundw
      case rel => exact ⟨i + 1, by omega, by go_num, HB1.out⟩
      case measure => simp [intOf]; omega
    · obtain rfl : i = n := by omega
      have t1 : decide ((i : Int) < (i : Int)) = false := by simp
      have t2 : decide (i < i) = false := by simp
      go_wp2
      clear t1 t2
      go_loopw [6] (fun p wr => RpO ls i w p wr) (fun p _ => i - (intOf p).toNat)
      case atStart => exact ⟨0, Nat.zero_le _, rfl, fun i' h => absurd h (Nat.not_lt_zero _), hbel⟩
      case round =>
        obtain ⟨q, hq, rfl, hall, hbel⟩ := hrel
        by_cases hlt : q < i
        · have t1 : decide ((q : Int) < (i : Int)) = true := by simp; omega
          have t2 : decide (q < i) = true := by simpa using hlt
          have HAll := Lib.hid hall
          have HB := Lib.hid hbel
          clear hall hbel
          go_wp2
          clear t1 t2
          go_loopw [7] (fun p wr => RpI ls i q w p wr) (fun p _ => i - (intOf p).toNat)
          case atStart => exact ⟨0, Nat.zero_le _, rfl, fun i' h => absurd h (Nat.not_lt_zero _), HB.out⟩
          case round =>
            obtain ⟨k, hk, rfl, hall2, hbel⟩ := hrel
            have HAll2 := Lib.hid hall2
            have HB2 := Lib.hid hbel
            clear hall2
            by_cases hlt2 : k < i
            · have t1 : decide ((k : Int) < (i : Int)) = true := by simp; omega
              have t2 : decide (k < i) = true := by simpa using hlt2
              have HNx : Hid (okp ls q k → ∀ k', k' < k + 1 → okp ls q k') := fun h k' hk' => by
                rcases Nat.lt_or_ge k' k with z | z
                · exact HAll2.out k' z
                · obtain rfl : k' = k := by omega
                  exact h
              by_cases hqk : q = k
              · subst hqk
                have t3 : ((q : Int) != (q : Int)) = false := by simp
                have HOk : Hid (okp ls q q) := fun h => absurd rfl h
                clear hbel hlt2
                go_wp2
                go_quiet (fail)
                go_wp2
                go_roundw
                case rel => exact ⟨q + 1, by omega, by go_num, HNx.out HOk.out, below_drewN HB2.out _⟩
                case measure => simp [intOf]; omega
              · have t3 : ((q : Int) != (k : Int)) = true := by simp; omega
                obtain ⟨b, off, rfl, hbl, k0, k1, k2⟩ := HAt.out q hlt wr hbel
                obtain ⟨b2, off2, e2, hbl2, j0, j1, j2⟩ := HAt.out k hlt2 wr hbel
                simp only [Option.some.injEq, Addr.mk.injEq, and_true] at e2
                obtain ⟨rfl, rfl⟩ := e2
                have hok : okp ls q k ↔ ((bAt bs q).1 ≠ [] → (bAt bs k).1 ≠ [] → ¬ ((bAt bs k).1 <+: (bAt bs q).1)) := by
                  unfold okp; rw [HLs.out q, HLs.out k]; exact ⟨fun h => h hqk, fun h _ => h⟩
                have b8 := H8'.out q
                have c8 := H8'.out k
                generalize bAt bs q = X at *
                generalize bAt bs k = Y at *
                obtain ⟨l, A1, c1⟩ := X
                obtain ⟨m, A2, c2⟩ := Y
                simp only at k0 k1 k2 j0 j1 j2 hok b8 c8
                have HHok := Lib.hid hok
                have HBL1 := Lib.hid (fun (V : World) (hV : Below wr.heap.size wr V) => bitList_n l b8 _ _ rfl rfl A1 c1 V (k2.on hV))
                have HBL2 := Lib.hid (fun (V : World) (hV : Below wr.heap.size wr V) => bitList_n m c8 _ _ rfl rfl A2 c2 V (j2.on hV))
                have HST := Lib.hid (fun (A5 : Option Addr) (c5 : Nat) (A6 : Option Addr) (c6 : Nat) (V : World) (hc : l.length ≤ c5) h1 h2 => starts_any l m _ _ rfl rfl (by omega) (by omega) A5 A6 c5 c6 hc V h1 h2)
                have hl0 : l = [] ↔ l.length = 0 := List.length_eq_zero_iff.symm
                have hm0 : m = [] ↔ m.length = 0 := List.length_eq_zero_iff.symm
                have t5 : (0 : Int) ≤ (q : Int) := by omega
                have t6 : (q : Int) < (i : Int) := by omega
                have t7 : (0 : Int) ≤ (k : Int) := by omega
                have t8 : (k : Int) < (i : Int) := by omega
                generalize (pack l).length = P1 at *
                generalize (pack m).length = P2 at *
                generalize l.length = N1 at *
                generalize m.length = N2 at *
                clear k2 j2 hok
                by_cases z1 : N1 = 0
                · have d1 : decide ((0 : Int) < (N1 : Int)) = false := by simp; omega
                  have d2 : decide (0 < N1) = false := by simp; omega
                  have HOk : Hid (okp ls q k) := HHok.out.2 fun h => absurd (hl0.2 z1) h
                  clear hbel hlt hlt2 hqk hl0 hm0 z1 k1 j0 j1 HBL1 HBL2 HST
                  go_wp2
                  go_quiet (fail)
                  go_wp2
                  go_roundw
                  case rel => exact ⟨k + 1, by omega, by go_num, HNx.out HOk.out, below_drewN HB2.out _⟩
                  case measure => simp [intOf]; omega
                · have d1 : decide ((0 : Int) < (N1 : Int)) = true := by simp; omega
                  have d2 : decide (0 < N1) = true := by simp; omega
                  by_cases z2 : N2 = 0
                  · have d3 : decide ((0 : Int) < (N2 : Int)) = false := by simp; omega
                    have d4 : decide (0 < N2) = false := by simp; omega
                    have HOk : Hid (okp ls q k) := HHok.out.2 fun _ h => absurd (hm0.2 z2) h
                    clear hbel hlt hlt2 hqk hl0 hm0 z1 z2 k1 j1 HBL1 HBL2 HST
                    go_wp2
                    go_quiet (fail)
                    go_wp2
                    go_roundw
                    case rel => exact ⟨k + 1, by omega, by go_num, HNx.out HOk.out, below_drewN HB2.out _⟩
                    case measure => simp [intOf]; omega
                  · have d3 : decide ((0 : Int) < (N2 : Int)) = true := by simp; omega
                    have d4 : decide (0 < N2) = true := by simp; omega
                    have HCl : Hid (wr.cell? ⟨b, off + q * 2, none⟩ = some (.int .i64 (N1 : Int)) ∧ wr.cell? ⟨b, off + q * 2 + 1, none⟩ = some (.slice A1 P1 c1) ∧ wr.cell? ⟨b, off + k * 2, none⟩ = some (.int .i64 (N2 : Int)) ∧ wr.cell? ⟨b, off + k * 2 + 1, none⟩ = some (.slice A2 P2 c2)) := ⟨k0, k1, j0, j1⟩
                    have HK : Hid (∀ w' : World, Below wr.heap.size wr w' → w'.cell? ⟨b, off + q * 2, none⟩ = some (.int .i64 (N1 : Int)) ∧ w'.cell? ⟨b, off + q * 2 + 1, none⟩ = some (.slice A1 P1 c1) ∧ w'.cell? ⟨b, off + k * 2, none⟩ = some (.int .i64 (N2 : Int)) ∧ w'.cell? ⟨b, off + k * 2 + 1, none⟩ = some (.slice A2 P2 c2)) := by
                      intro w' hw
                      exact ⟨(World.cell?_of_block (a := ⟨b, off + q * 2, none⟩) (hw.block b hbl)).trans HCl.out.1, (World.cell?_of_block (a := ⟨b, off + q * 2 + 1, none⟩) (hw.block b hbl)).trans HCl.out.2.1, (World.cell?_of_block (a := ⟨b, off + k * 2, none⟩) (hw.block b hbl)).trans HCl.out.2.2.1, (World.cell?_of_block (a := ⟨b, off + k * 2 + 1, none⟩) (hw.block b hbl)).trans HCl.out.2.2.2⟩
                    have hn1 : l ≠ [] := fun z => z1 (hl0.1 z)
                    have hn2 : m ≠ [] := fun z => z2 (hm0.1 z)
                    clear hbel hqk hl0 hm0 z1 z2
                    by_cases hp : m <+: l
                    · have hfalse : r = false := by
                        cases hr : r with
                        | false => rfl
                        | true => exact absurd hp (HHok.out.1 (HRr.out.1 hr q hlt k hlt2) hn1 hn2)
                      subst hfalse
                      rw [show decide (m <+: l) = true by simpa using hp] at HST
                      clear hn1 hn2 hp HHok HRr HNx hlt hlt2
                      go_wp2_with fail
                      go_region_held3 (fun w' => w'.cell? ⟨b, off + q * 2, none⟩ = some (.int .i64 (N1 : Int)) ∧ w'.cell? ⟨b, off + q * 2 + 1, none⟩ = some (.slice A1 P1 c1) ∧ w'.cell? ⟨b, off + k * 2, none⟩ = some (.int .i64 (N2 : Int)) ∧ w'.cell? ⟨b, off + k * 2 + 1, none⟩ = some (.slice A2 P2 c2))
                        ((refine HK.out _ ?_; first | exact hk3.out | exact hk2.out | exact hk1.out | exact (Below.refl _ _).drew))
                        (first
                          | (go_at_call 53; refine (HST.out A5 c5 A6 c6 w2 hc5.out hr5.out hr6.out).mono ?_; rintro e w3 ⟨rfl, B3⟩; have hk3 : Hid (Below wr.heap.size wr w3) := hk2.out.trans (B3.mono hk2.out.size); clear B3)
                          | (go_at_call 54; have hx := hk1.out; refine (HBL2.out w1 hx).mono ?_; rintro e w2 ⟨A6, c6, rfl, -, r6, B2⟩; have hr6 := Lib.hid r6; have hk2 : Hid (Below wr.heap.size wr w2) := hx.trans (B2.mono hx.size); replace hr5 := Lib.hid (hr5.out.on B2); clear B2 r6 hx)
                          | (go_at_call 54; refine (HBL1.out wr.drew (Below.refl _ wr).drew).mono ?_; rintro e w1 ⟨A5, c5, rfl, q5, r5, B1⟩; have hc5 := Lib.hid q5; have hr5 := Lib.hid r5; have hk1 : Hid (Below wr.heap.size wr w1) := ((Below.refl _ wr).drew).trans B1; clear B1 r5 q5))
                      have HB3 : Hid (Below w.heap.size w w3) := HB2.out.trans (hk3.out.mono HB2.out.size)
                      go_wp2
                      go_ret2
                      exact ⟨rfl, HB3.out⟩
                    · have HOk : Hid (okp ls q k) := HHok.out.2 fun _ _ => hp
                      rw [show decide (m <+: l) = false by simpa using hp] at HST
                      clear hn1 hn2 hp HHok hlt hlt2
                      go_wp2_with fail
                      go_region_held3 (fun w' => w'.cell? ⟨b, off + q * 2, none⟩ = some (.int .i64 (N1 : Int)) ∧ w'.cell? ⟨b, off + q * 2 + 1, none⟩ = some (.slice A1 P1 c1) ∧ w'.cell? ⟨b, off + k * 2, none⟩ = some (.int .i64 (N2 : Int)) ∧ w'.cell? ⟨b, off + k * 2 + 1, none⟩ = some (.slice A2 P2 c2))
                        ((refine HK.out _ ?_; first | exact hk3.out | exact hk2.out | exact hk1.out | exact (Below.refl _ _).drew))
                        (first
                          | (go_at_call 53; refine (HST.out A5 c5 A6 c6 w2 hc5.out hr5.out hr6.out).mono ?_; rintro e w3 ⟨rfl, B3⟩; have hk3 : Hid (Below wr.heap.size wr w3) := hk2.out.trans (B3.mono hk2.out.size); clear B3)
                          | (go_at_call 54; have hx := hk1.out; refine (HBL2.out w1 hx).mono ?_; rintro e w2 ⟨A6, c6, rfl, -, r6, B2⟩; have hr6 := Lib.hid r6; have hk2 : Hid (Below wr.heap.size wr w2) := hx.trans (B2.mono hx.size); replace hr5 := Lib.hid (hr5.out.on B2); clear B2 r6 hx)
                          | (go_at_call 54; refine (HBL1.out wr.drew (Below.refl _ wr).drew).mono ?_; rintro e w1 ⟨A5, c5, rfl, q5, r5, B1⟩; have hc5 := Lib.hid q5; have hr5 := Lib.hid r5; have hk1 : Hid (Below wr.heap.size wr w1) := ((Below.refl _ wr).drew).trans B1; clear B1 r5 q5))
                      have HB3 : Hid (Below w.heap.size w w3) := HB2.out.trans (hk3.out.mono HB2.out.size)
                      go_wp2
                      go_roundw
                      case rel => exact ⟨k + 1, by omega, by go_num, HNx.out HOk.out, HB3.out⟩
                      case measure => simp [intOf]; omega
            · obtain rfl : k = i := by omega
              have t1 : decide ((k : Int) < (k : Int)) = false := by simp
              have t2 : decide (k < k) = false := by simp
              clear hbel
              go_wp2
              go_roundw
              case rel => exact ⟨q + 1, by omega, by go_num, fun i' hi' => by
                rcases Nat.lt_or_ge i' q with z | z
                · exact HAll.out i' z
                · obtain rfl : i' = q := by omega
                  exact HAll2.out, HB2.out⟩
              case measure => simp [intOf]; omega
        · obtain rfl : q = i := by omega
          obtain rfl : r = true := HRr.out.2 hall
          have t1 : decide ((q : Int) < (q : Int)) = false := by simp
          have t2 : decide (q < q) = false := by simp
          have HB := Lib.hid hbel
          clear hall hbel
          go_wp2
          go_ret2
          exact ⟨rfl, HB.out⟩
end Go.Proofs.Ythfjfkbolfnkkaa
