/- Texts of this proof, one behind the other; each fact names its conditions. -/
import Derived.Test.YtbddcokjkdoaaaaGreatSN10
import Derived.Lib.BytesEntry
import Derived.Shelf.Bytes.SlSmallAll
namespace Go.Proofs.YtbddcokjkdoaaaaGreat
set_option maxRecDepth 100000
set_option linter.unusedVariables false
open Go.RowKit Go.Shelf Go.Sort
theorem ret_bool {a b : Bool} (h : a = b) : Ending.returned (.bool a) = .returned (.bool b) := by rw [h]
def ints (bs : List Nat) : List Int := bs.map fun (x : Nat) => (x : Int)
theorem ints_length (bs : List Nat) : (ints bs).length = bs.length := by simp [ints]
theorem bytes_inj : ∀ a b : List Nat, (∀ x ∈ a, x < 256) → (∀ x ∈ b, x < 256) → Lib.bytesOf (ints a) = Lib.bytesOf (ints b) → a = b
  | [], [], _, _, _ => rfl
  | [], _ :: _, _, _, h => by simp [Lib.bytesOf, ints] at h
  | _ :: _, [], _, _, h => by simp [Lib.bytesOf, ints] at h
  | x :: a, y :: b, ha, hb, h => by
    have hx := ha x List.mem_cons_self
    have hy := hb y List.mem_cons_self
    have h' : UInt8.ofNat x = UInt8.ofNat y ∧ Lib.bytesOf (ints a) = Lib.bytesOf (ints b) := by
      simp only [Lib.bytesOf, ints, List.map_cons, List.cons.injEq, Int.toNat_natCast] at h ⊢
      exact h
    have e := congrArg UInt8.toNat h'.1
    rw [UInt8.toNat_ofNat', UInt8.toNat_ofNat', Nat.mod_eq_of_lt hx, Nat.mod_eq_of_lt hy] at e
    rw [e, bytes_inj a b (fun z hz => ha z (List.mem_cons_of_mem _ hz)) (fun z hz => hb z (List.mem_cons_of_mem _ hz)) h'.2]
theorem conv_rd {w : World} {B : Nat} {A : Option Addr} {bs : List Nat} (h : Rd w B A bs) (c : Nat) :
    (convert 25 9 (.slice A bs.length c)).run Tryz.prog w = .ok (.string (strOfNums (ints bs))) w := by
  rcases h with rfl | ⟨b, off, rfl, hb, hc⟩
  · exact run_convert_bytes_zero w 25 5 Tryz.underlying25 Tryz.underlying5 A c 9 Tryz.underlying9
  · refine run_convert_bytes_arg (P := Tryz.prog) w 25 5 Tryz.underlying25 Tryz.underlying5 b off bs.length c (ints bs) (ints_length bs) (fun i hi => ?_) 9 Tryz.underlying9
    rw [hc i hi]
    simp [ints, List.getD_eq_getElem?_getD, List.getElem?_map, List.getElem?_eq_getElem hi]
theorem str_eq (a b : List Nat) (ha : ∀ x ∈ a, x < 256) (hb : ∀ x ∈ b, x < 256) : ((strOfNums (ints a)).toList == (strOfNums (ints b)).toList) = decide (a = b) := by
  rw [Lib.strOfNums_toList, Lib.strOfNums_toList, Bool.eq_iff_iff]
  simp only [beq_iff_eq, decide_eq_true_eq]
  constructor
  · intro h
    exact bytes_inj a b ha hb h
  · rintro rfl; rfl
set_option maxHeartbeats 1000000 in
theorem beq_any (a b : List Nat) (n m : Nat) (hn : a.length = n) (hm : b.length = m) (ha : ∀ x ∈ a, x < 256) (hb : ∀ x ∈ b, x < 256) (X Y : Option Addr) (c d : Nat) (w : World) (B D : Nat) (hX : Rd w B X a) (hY : Rd w D Y b) :
    Calls Tryz.prog 152 #[.slice X n c, .slice Y m d] w fun e w' => e = .returned (.bool (decide (a = b))) ∧ w' = w := by
  subst hn hm
  have h1 := conv_rd hX c
  have h2 := conv_rd hY d
  have hE := Lib.hid (str_eq a b ha hb)
  clear ha hb hX hY
  generalize strOfNums (ints a) = S1 at *
  generalize strOfNums (ints b) = S2 at *
  generalize decide (a = b) = r at *
  generalize a.length = n at *
  generalize b.length = m at *
  go_enter Tryz.func152, Tryz.ntmps152
  go_wp2
  go_ret
  exact ⟨ret_bool hE.out, rfl⟩
end Go.Proofs.YtbddcokjkdoaaaaGreat
