/- What bytes.Compare and bytes.Equal answer for slices that read as bytes; the world is as it was. -/
import Derived.Test.YthfjfkbolfnkkaaKCmpW
import Derived.Test.YthfjfkbolfnkkaaKP6
import Derived.Lib.BytesEntry
import Derived.Shelf.Bytes.SlSmallAll
namespace Go.Proofs.Ythfjfkbolfnkkaa
set_option maxRecDepth 100000
set_option linter.unusedVariables false
open Go.RowKit Go.Shelf Go.Sort

theorem ret_bool {a b : Bool} (h : a = b) : Ending.returned (.bool a) = .returned (.bool b) := by rw [h]
def ints (bs : List Nat) : List Int := bs.map fun (x : Nat) => (x : Int)
theorem ints_length (bs : List Nat) : (ints bs).length = bs.length := by simp [ints]
theorem ints_get (bs : List Nat) (j : Nat) (x : Int) (h : (ints bs)[j]? = some x) : j < bs.length ∧ x = ((bs[j]?.getD 0 : Nat) : Int) := by
  have hj : j < bs.length := by have := (List.getElem?_eq_some_iff.1 h).1; rwa [ints_length] at this
  refine ⟨hj, ?_⟩
  simp [ints, List.getElem?_map, List.getElem?_eq_getElem hj] at h ⊢
  exact h.symm
/-- The model's own reader of bytes. -/
theorem run_bytes {P : Program} {w : World} {B : Nat} {A : Option Addr} {bs : List Nat} (h : Rd w B A bs) (c : Nat) :
    (Extern.Bytes.bytesOf (.slice A bs.length c)).run P w = .ok ⟨(Lib.bytesOf (ints bs)).toArray⟩ w := by
  rcases h with rfl | ⟨b, off, rfl, hb, hc⟩
  · cases A with
    | none => rfl
    | some a => rfl
  · have hl := Lib.run_loadBytesX (P := P) w (ints bs) ⟨b, off, none⟩ .empty (fun j x hj => by
      obtain ⟨hj', rfl⟩ := ints_get bs j x hj
      have e : (⟨b, off, none⟩ : Addr).add j = ⟨b, off + j, none⟩ := by unfold Addr.add; split <;> simp_all
      rw [e]
      exact hc j hj')
    rw [ints_length] at hl
    have he : (⟨ByteArray.empty.data ++ (Lib.bytesOf (ints bs)).toArray⟩ : ByteArray) = ⟨(Lib.bytesOf (ints bs)).toArray⟩ := by
      apply ByteArray.ext
      show (#[] : Array UInt8) ++ (Lib.bytesOf (ints bs)).toArray = (Lib.bytesOf (ints bs)).toArray
      simp
    rw [he] at hl
    exact hl
theorem u8_lt (x y : Nat) (hx : x < 256) (hy : y < 256) : (UInt8.ofNat x < UInt8.ofNat y) ↔ x < y := by
  rw [UInt8.lt_iff_toNat_lt, UInt8.toNat_ofNat', UInt8.toNat_ofNat']
  rw [Nat.mod_eq_of_lt hx, Nat.mod_eq_of_lt hy]
theorem compare_cmpB : ∀ a b : List Nat, (∀ x ∈ a, x < 256) → (∀ x ∈ b, x < 256) → Lib.compareBytes (Lib.bytesOf (ints a)) (Lib.bytesOf (ints b)) = cmpB a b
  | [], [], _, _ => rfl
  | [], _ :: _, _, _ => rfl
  | _ :: _, [], _, _ => rfl
  | x :: a, y :: b, ha, hb => by
    have ih := compare_cmpB a b (fun z hz => ha z (List.mem_cons_of_mem _ hz)) (fun z hz => hb z (List.mem_cons_of_mem _ hz))
    have hx := ha x List.mem_cons_self
    have hy := hb y List.mem_cons_self
    show (if UInt8.ofNat (x : Int).toNat < UInt8.ofNat (y : Int).toNat then (-1 : Int) else if UInt8.ofNat (y : Int).toNat < UInt8.ofNat (x : Int).toNat then 1 else Lib.compareBytes (Lib.bytesOf (ints a)) (Lib.bytesOf (ints b))) = _
    rw [ih]
    simp only [Int.toNat_natCast, u8_lt x y hx hy, u8_lt y x hy hx]
    rfl
theorem bytes_inj : ∀ a b : List Nat, (∀ x ∈ a, x < 256) → (∀ x ∈ b, x < 256) → Lib.bytesOf (ints a) = Lib.bytesOf (ints b) → a = b
  | [], [], _, _, _ => rfl
  | [], _ :: _, _, _, h => by simp [Lib.bytesOf, ints] at h
  | _ :: _, [], _, _, h => by simp [Lib.bytesOf, ints] at h
  | x :: a, y :: b, ha, hb, h => by
    have hx := ha x List.mem_cons_self
    have hy := hb y List.mem_cons_self
    have h' : UInt8.ofNat x = UInt8.ofNat y ∧ Lib.bytesOf (ints a) = Lib.bytesOf (ints b) := by
      simp only [Lib.bytesOf, ints, List.map_cons, List.cons.injEq, Int.toNat_natCast] at h ⊢
      exact h
    have e := congrArg UInt8.toNat h'.1
    rw [UInt8.toNat_ofNat', UInt8.toNat_ofNat', Nat.mod_eq_of_lt hx, Nat.mod_eq_of_lt hy] at e
    rw [e, bytes_inj a b (fun z hz => ha z (List.mem_cons_of_mem _ hz)) (fun z hz => hb z (List.mem_cons_of_mem _ hz)) h'.2]
theorem run_cmp {P : Program} {w : World} {B D : Nat} {X Y : Option Addr} {a b : List Nat} (ha : ∀ x ∈ a, x < 256) (hb : ∀ x ∈ b, x < 256) (hX : Rd w B X a) (hY : Rd w D Y b) (c d : Nat) :
    (Extern.BytealgCompare.compare #[.slice X a.length c, .slice Y b.length d]).run P w = .ok (.int .i64 (cmpB a b)) w := by
  change Sem.run P (do pure (goInt (Extern.BytealgCompare.cmp (← Extern.Bytes.bytesOf (.slice X a.length c)) (← Extern.Bytes.bytesOf (.slice Y b.length d))))) w = _
  simp only [Sem.run_bind, Sem.run_pure, Result.andThen, run_bytes hX c, run_bytes hY d]
  rw [Lib.cmp_eq]
  rw [← compare_cmpB a b ha hb]
  rfl
set_option maxHeartbeats 1000000 in
theorem bcmp_any (a b : List Nat) (n m : Nat) (hn : a.length = n) (hm : b.length = m) (ha : ∀ x ∈ a, x < 256) (hb : ∀ x ∈ b, x < 256) (X Y : Option Addr) (c d : Nat) (w : World) (B D : Nat) (hX : Rd w B X a) (hY : Rd w D Y b) :
    Calls Try.prog 44 #[.slice X n c, .slice Y m d] w fun e w' => e = .returned (.int .i64 (cmpB a b)) ∧ w' = w := by
  subst hn hm
  have HC := Lib.hid (run_cmp (P := Try.prog) ha hb hX hY c d)
  clear ha hb hX hY
  generalize cmpB a b = r at *
  generalize a.length = n at *
  generalize b.length = m at *
  go_enter Try.func44, Try.ntmps44
  go_wp2
  rw [run_callFunc_extern Try.func74 (by kernel_rfl) (by kernel_rfl) (by kernel_rfl) (e := Extern.BytealgCompare.compare) (by kernel_rfl), HC.out]
  simp only [Result.andThen]
  rw [Oper.upon_value]
  go_wp2
  go_ret
  exact ⟨rfl, rfl⟩
theorem conv_rd {w : World} {B : Nat} {A : Option Addr} {bs : List Nat} (h : Rd w B A bs) (c : Nat) :
    (convert 24 9 (.slice A bs.length c)).run Try.prog w = .ok (.string (strOfNums (ints bs))) w := by
  rcases h with rfl | ⟨b, off, rfl, hb, hc⟩
  · exact run_convert_bytes_zero w 24 5 Try.underlying24 Try.underlying5 A c 9 Try.underlying9
  · refine run_convert_bytes_arg (P := Try.prog) w 24 5 Try.underlying24 Try.underlying5 b off bs.length c (ints bs) (ints_length bs) (fun i hi => ?_) 9 Try.underlying9
    rw [hc i hi]
    simp [ints, List.getD_eq_getElem?_getD, List.getElem?_map, List.getElem?_eq_getElem hi]
theorem str_eq (a b : List Nat) (ha : ∀ x ∈ a, x < 256) (hb : ∀ x ∈ b, x < 256) : ((strOfNums (ints a)).toList == (strOfNums (ints b)).toList) = decide (a = b) := by
  rw [Lib.strOfNums_toList, Lib.strOfNums_toList, Bool.eq_iff_iff]
  simp only [beq_iff_eq, decide_eq_true_eq]
  constructor
  · intro h
    exact bytes_inj a b ha hb h
  · rintro rfl; rfl
set_option maxHeartbeats 1000000 in
theorem beq_any (a b : List Nat) (n m : Nat) (hn : a.length = n) (hm : b.length = m) (ha : ∀ x ∈ a, x < 256) (hb : ∀ x ∈ b, x < 256) (X Y : Option Addr) (c d : Nat) (w : World) (B D : Nat) (hX : Rd w B X a) (hY : Rd w D Y b) :
    Calls Try.prog 76 #[.slice X n c, .slice Y m d] w fun e w' => e = .returned (.bool (decide (a = b))) ∧ w' = w := by
  subst hn hm
  have h1 := conv_rd hX c
  have h2 := conv_rd hY d
  have hE := Lib.hid (str_eq a b ha hb)
  clear ha hb hX hY
  generalize strOfNums (ints a) = S1 at *
  generalize strOfNums (ints b) = S2 at *
  generalize decide (a = b) = r at *
  generalize a.length = n at *
  generalize b.length = m at *
  go_enter Try.func76, Try.ntmps76
  go_wp2
  go_ret
  exact ⟨ret_bool hE.out, rfl⟩
end Go.Proofs.Ythfjfkbolfnkkaa
