/- Texts of this proof, one behind the other; each fact names its conditions. -/
import Derived.Test.YtbddcokjkdoaaaaGreatSN1
import Derived.ProofKit
import Derived.OpenShut
import Derived.ShutString
import Derived.ChangeOld
import Derived.Lib.SmallJoins
namespace Go.Proofs.YtbddcokjkdoaaaaGreat
section
section
open Go.RowKit
def Gv (w : World) (len : Int) (n : Nat) (bs : List Nat) (err : Int) (e : Ending) (w' : World) : Prop :=
  ∃ A c, e = .returned (.tuple #[.agg #[.int .i64 len, .slice A n c], .int .i64 err]) ∧ Rd w' w'.heap.size A bs ∧ Below w.heap.size w w'
theorem lt256 {bs : List Nat} (h : bs.all (fun b => decide (b < 256)) = true) : ∀ b ∈ bs, b < 256 := by
  intro b hb
  have := List.all_eq_true.1 h b hb
  simpa using this
theorem b1 (w : World) : Calls Tryz.prog 65 #[.agg #[.int .i64 0, .slice none 0 0], .int .u64 5, .int .i64 3] w (Gv w 3 1 [160] 0) := by
  have h := put_any 0 none 0 [] 5 3 w (by simp) (.inl rfl) (by decide)
  have e : putL 0 [] 5 3 = 0 := by decide
  rw [e, if_pos rfl] at h
  exact h
theorem b2 (A : Option Addr) (c : Nat) (w : World) (hA : Rd w w.heap.size A [160]) : Calls Tryz.prog 65 #[.agg #[.int .i64 3, .slice A 1 c], .int .u64 9, .int .i64 7] w (Gv w 10 2 [162, 64] 0) := by
  have h := put_any 3 A c [160] 9 7 w (lt256 (by decide)) hA (by decide)
  have e : putL 3 [160] 9 7 = 0 := by decide
  rw [e, if_pos rfl] at h
  exact h
theorem b3 (A : Option Addr) (c : Nat) (w : World) (hA : Rd w w.heap.size A [162, 64]) : Calls Tryz.prog 66 #[.agg #[.int .i64 10, .slice A 2 c], .int .i64 3, .int .i64 7] w fun e w' => e = .returned (.tuple #[.int .u64 9, .int .i64 0]) ∧ Below w.heap.size w w' := by
  have h := get_any 10 A c [162, 64] 3 7 w (lt256 (by decide)) hA
  have e : getE 10 [162, 64] 3 7 = 0 := by decide
  have e2 : getN 10 [162, 64] 3 7 = 9 := by decide
  rw [e, e2] at h
  exact h
theorem b4 (A B : Option Addr) (c d : Nat) (w : World) (hA : Rd w w.heap.size A [160]) (hB : Rd w w.heap.size B [162, 64]) : Calls Tryz.prog 23 #[.agg #[.int .i64 3, .slice A 1 c], .agg #[.int .i64 10, .slice B 2 d]] w (Gv w 13 2 [180, 72] 0) := by
  have h := join_any 3 10 A B c d [160] [162, 64] w (lt256 (by decide)) hA (lt256 (by decide)) hB
  have e : joinE 3 [160] 10 [162, 64] = 0 := by decide
  rw [e, if_pos rfl] at h
  exact h
theorem b5 (A : Option Addr) (c : Nat) (w : World) (hA : Rd w w.heap.size A [162, 64]) : Calls Tryz.prog 35 #[.agg #[.int .i64 10, .slice A 2 c], .int .i64 0, .int .i64 3] w (Gv w 3 1 [160] 0) := by
  have h := cut_any 10 A c [162, 64] 0 3 w (lt256 (by decide)) hA
  have e : cutE 10 [162, 64] 0 3 = 0 := by decide
  rw [e, if_pos rfl] at h
  exact h
theorem b6 (A : Option Addr) (c : Nat) (w : World) (hA : Rd w w.heap.size A [162, 64]) : Calls Tryz.prog 66 #[.agg #[.int .i64 10, .slice A 2 c], .int .i64 9, .int .i64 2] w fun e w' => e = .returned (.tuple #[.int .u64 0, .int .i64 7]) ∧ Below w.heap.size w w' := by
  have h := get_any 10 A c [162, 64] 9 2 w (lt256 (by decide)) hA
  have e : getE 10 [162, 64] 9 2 = 7 := by decide
  have e2 : getN 10 [162, 64] 9 2 = 0 := by decide
  rw [e, e2] at h
  exact h
theorem box_at {w V : World} {a b : Value} (h : Below (w.heap.size + 1) (w.alloc (.cells #[a, b] 27)) V) : V.cell? ⟨w.heap.size, 0, none⟩ = some a ∧ V.cell? ⟨w.heap.size, 1, none⟩ = some b := by
  have e := (h.block w.heap.size (by omega)).trans (World.alloc_heap_new w (.cells #[a, b] 27))
  exact ⟨(blk_cells e).1, (blk_cells e).2.1⟩
theorem Rd.on {w V : World} {A : Option Addr} {bs : List Nat} (h : Rd w w.heap.size A bs) (hb : Below w.heap.size w V) : Rd V V.heap.size A bs := h.below hb hb.size
end
section
open Go.ChangeShapes Go.WideShapes Go.ChangeAt Go.RowKit Go.Joins
theorem own : ownKnob Tryz.prog.godebug = none := by kernel_rfl
theorem laidOut : laidOutB Tryz.prog = true := by kernel_rfl
theorem lt_of_cell {w : World} {p : Addr} {v : Value} (h : w.cell? p = some v) : p.block < w.heap.size := by
  rcases Nat.lt_or_ge p.block w.heap.size with hlt | hge
  · exact hlt
  · simp [World.cell?, Array.getElem?_eq_none hge] at h
end
section
open Go.RowKit
theorem nb_snoc (n k : Nat) : nb n (k + 1) = nb (n / 2) k ++ [n % 2 == 1] := by
  apply List.ext_getElem
  · simp [nb]
  · intro i h1 h2
    rw [nb_length] at h1
    rw [List.getElem_append]
    split
    · rename_i h3
      rw [nb_length] at h3
      simp only [nb, List.getElem_map, List.getElem_range]
      rw [Nat.div_div_eq_div_mul]
      have e : k + 1 - 1 - i = (k - 1 - i) + 1 := by omega
      rw [e, Nat.pow_succ, Nat.mul_comm]
    · rename_i h3
      rw [nb_length] at h3
      have e : i = k := by omega
      subst e
      simp [nb]
theorem num_nb : ∀ (k n : Nat), num (nb n k) = n % 2 ^ k := by
  intro k
  induction k with
  | zero => intro n; simp [nb, num, Nat.mod_one]
  | succ k ih =>
    intro n
    rw [nb_snoc, num_snoc, ih]
    have e : (n % 2 == 1).toNat = n % 2 := by
      rcases (show n % 2 = 0 ∨ n % 2 = 1 by omega) with h | h <;> rw [h] <;> rfl
    rw [e, Nat.pow_succ, Nat.mul_comm (2 ^ k) 2, Nat.mod_mul]
    omega
theorem num_nb_small (n k : Nat) (h : n / 2 ^ k = 0) : num (nb n k) = n := by
  rw [num_nb]
  apply Nat.mod_eq_of_lt
  rcases Nat.div_eq_zero_iff.1 h with h | h
  · have := Nat.two_pow_pos k; omega
  · exact h
theorem check_l (l : List Bool) (hl : l.length ≤ 8192) (A : Option Addr) (c : Nat) (w : World) (h : Rd w w.heap.size A (pack l)) :
    Calls Tryz.prog 53 #[.agg #[.int .i64 (l.length : Int), .slice A (pack l).length c]] w fun e w' => e = .returned (.int .i64 0) ∧ Below w.heap.size w w' := by
  have := check_any (l.length : Int) A c (pack l) w (pack_lt l) h
  rwa [chk_pack l hl] at this
theorem put_l (l L : List Bool) (A : Option Addr) (c n k : Nat) (hk : k ≤ 64) (hn : n / 2 ^ k = 0) (hf : l.length + k ≤ 8192) (hn64 : n < 18446744073709551616) (hL : L = l ++ nb n k) (w : World) (h : Rd w w.heap.size A (pack l)) :
    Calls Tryz.prog 65 #[.agg #[.int .i64 (l.length : Int), .slice A (pack l).length c], .int .u64 (n : Int), .int .i64 (k : Int)] w (Gv w (L.length : Int) (pack L).length (pack L) 0) := put_ok l L A c n k w h hk hn hf hn64 hL
theorem join_l (a b L : List Bool) (A B : Option Addr) (c d : Nat) (hf : a.length + b.length ≤ 8192) (hL : L = a ++ b) (w : World) (hA : Rd w w.heap.size A (pack a)) (hB : Rd w w.heap.size B (pack b)) :
    Calls Tryz.prog 23 #[.agg #[.int .i64 (a.length : Int), .slice A (pack a).length c], .agg #[.int .i64 (b.length : Int), .slice B (pack b).length d]] w (Gv w (L.length : Int) (pack L).length (pack L) 0) := by
  have h := join_in a b L (by omega) (by omega) A B c d w hA hB hL
  rw [if_neg (by omega), if_neg (by omega)] at h
  exact h
theorem join_l8 (a b : List Bool) (ha : a.length ≤ 8192) (hb : b.length ≤ 8192) (A B : Option Addr) (c d : Nat) (hf : 8192 < a.length + b.length) (w : World) (hA : Rd w w.heap.size A (pack a)) (hB : Rd w w.heap.size B (pack b)) :
    Calls Tryz.prog 23 #[.agg #[.int .i64 (a.length : Int), .slice A (pack a).length c], .agg #[.int .i64 (b.length : Int), .slice B (pack b).length d]] w (Gv w 0 0 (pack []) 8) := by
  have h := join_in a b _ ha hb A B c d w hA hB rfl
  rw [if_pos hf, if_pos hf] at h
  exact h
theorem get_l (l : List Bool) (hl : l.length ≤ 8192) (A : Option Addr) (c p k m : Nat) (h1 : k ≤ 64) (h2 : p + k ≤ l.length) (hm : m = num ((l.drop p).take k)) (w : World) (h : Rd w w.heap.size A (pack l)) :
    Calls Tryz.prog 66 #[.agg #[.int .i64 (l.length : Int), .slice A (pack l).length c], .int .i64 (p : Int), .int .i64 (k : Int)] w fun e w' => e = .returned (.tuple #[.int .u64 (m : Int), .int .i64 0]) ∧ Below w.heap.size w w' := by
  subst hm
  exact get_ok l hl A c p k w h h1 h2
end
section
open Go.RowKit
def RdV (w : World) (B : Nat) (A : Option Addr) (vs : List Value) : Prop :=
  vs = [] ∨ ∃ b off, A = some ⟨b, off, none⟩ ∧ b < B ∧ ∀ i v, vs[i]? = some v → w.cell? ⟨b, off + i, none⟩ = some v
theorem RdV.keep {w w' : World} {B B' : Nat} {A : Option Addr} {vs : List Value} (h : RdV w B A vs) (hB : B ≤ B') (hk : ∀ k, k < B → w'.heap[k]? = w.heap[k]?) : RdV w' B' A vs := by
  rcases h with h | ⟨b, off, e, hb, hc⟩
  · exact .inl h
  · exact .inr ⟨b, off, e, by omega, fun i v hi => (World.cell?_of_block (w := w) (a := ⟨b, off + i, none⟩) (hk b hb)).trans (hc i v hi)⟩
theorem RdV.below {w w' : World} {B B' : Nat} {A : Option Addr} {vs : List Value} (h : RdV w B A vs) (hb : Below B w w') (hB : B ≤ B') : RdV w' B' A vs := h.keep hB hb.block
theorem RdV.on {w V : World} {A : Option Addr} {vs : List Value} (h : RdV w w.heap.size A vs) (hb : Below w.heap.size w V) : RdV V V.heap.size A vs := h.below hb hb.size
theorem RdV.at_ {w : World} {B : Nat} {A : Option Addr} {vs : List Value} (h : RdV w B A vs) {i : Nat} {v : Value} (hi : vs[i]? = some v) : ∃ b off, A = some ⟨b, off, none⟩ ∧ b < B ∧ w.cell? ⟨b, off + i, none⟩ = some v := by
  rcases h with h | ⟨b, off, e, hb, hc⟩
  · rw [h] at hi; simp at hi
  · exact ⟨b, off, e, hb, hc i v hi⟩
def nc (ns : List Nat) : List Value := ns.map fun (x : Nat) => Value.int .u64 (x : Int)
theorem nc_length (ns : List Nat) : (nc ns).length = ns.length := by simp [nc]
theorem nc_get (ns : List Nat) (i : Nat) (h : i < ns.length) : (nc ns)[i]? = some (.int .u64 ((ns[i]?.getD 0 : Nat) : Int)) := by
  simp [nc, List.getElem?_map, List.getElem?_eq_getElem h]
theorem nc_append (a b : List Nat) : nc (a ++ b) = nc a ++ nc b := by simp [nc]
def uc (n : Nat) : List Bool := List.replicate n false ++ [true]
def ucs (ns : List Nat) : List Bool := ns.flatMap uc
theorem uc_length (n : Nat) : (uc n).length = n + 1 := by simp [uc]
theorem ucs_append (a b : List Nat) : ucs (a ++ b) = ucs a ++ ucs b := by simp [ucs]
theorem ucs_snoc (a : List Nat) (n : Nat) : ucs (a ++ [n]) = ucs a ++ uc n := by rw [ucs_append]; simp [ucs]
theorem take_snoc (ns : List Nat) (i : Nat) (h : i < ns.length) : ns.take (i + 1) = ns.take i ++ [ns[i]?.getD 0] := by
  rw [List.take_succ_eq_append_getElem h, List.getElem?_eq_getElem h]; rfl
theorem ucs_take_le (ns : List Nat) (i : Nat) : (ucs (ns.take i)).length ≤ (ucs ns).length := by
  have e : ns = ns.take i ++ ns.drop i := (List.take_append_drop i ns).symm
  have h2 : (ucs ns).length = (ucs (ns.take i)).length + (ucs (ns.drop i)).length := by
    conv => lhs; rw [e]
    rw [ucs_append, List.length_append]
  omega
theorem nb_zeros (k : Nat) : nb 0 k = List.replicate k false := by
  apply List.ext_getElem
  · simp [nb]
  · intro i h1 h2; simp [nb]
theorem nb_one (z : Nat) : nb 1 (z + 1) = uc z := by
  rw [nb_snoc]
  have e : (1 : Nat) / 2 = 0 := rfl
  rw [e, nb_zeros]
  rfl
def manyE (ns : List Nat) : Int := if ns.any (fun n => decide (8192 ≤ n)) = true then 3 else if 8192 < (ucs ns).length then 8 else 0
def UW (w : World) (K : Nat) (l : List Bool) : Prop :=
  ∃ A c, w.heap[K]? = some (.cells #[.int .i64 (l.length : Int), .slice A (pack l).length c] 313 (0, 0)) ∧ Rd w w.heap.size A (pack l)
theorem grown_trans {a b c : World} {row : Option Nat} (h : a.grownBy b row) (k : b.grownBy c row) : a.grownBy c row :=
  ⟨k.os.trans h.os, k.tape.trans h.tape, k.output.trans h.output, Nat.le_trans h.size k.size, fun i hi hr => (k.block i (Nat.lt_of_lt_of_le hi h.size) hr).trans (h.block i hi hr)⟩
theorem grown_of_below {w w' : World} (h : Below w.heap.size w w') (row : Option Nat) : w.grownBy w' row := ⟨h.os, h.tape, h.output, h.size, fun k hk _ => h.block k hk⟩
theorem grown_set (w : World) (K i : Nat) (u : Value) : w.grownBy (w.setCell ⟨K, i, none⟩ u) (some K) :=
  ⟨rfl, rfl, rfl, by simp [World.setCell], fun k _ hk => Below.heap_setCell _ _ _ _ (fun e => hk (by rw [e]))⟩
end
section
open Go.RowKit
theorem Rd.setK {w : World} {B K i : Nat} {A A' : Option Addr} {bs : List Nat} {a : Int} {n c : Nat} {t : TypeId} (u : Value) (h : Rd w B A bs) (hK : w.heap[K]? = some (.cells #[.int .i64 a, .slice A' n c] t (0, 0))) : Rd (w.setCell ⟨K, i, none⟩ u) B A bs := by
  rcases h with h | ⟨b, off, rfl, hb, hc⟩
  · exact .inl h
  · by_cases h0 : bs = []
    · exact .inl h0
    · have hl : 0 < bs.length := List.length_pos_iff.2 h0
      have hne : b ≠ K := by
        rintro rfl
        have h1 := hc 0 hl
        simp only [World.cell?, hK] at h1
        rcases (show off = 0 ∨ off = 1 ∨ 2 ≤ off by omega) with rfl | rfl | h2
        · simp at h1
        · simp at h1
        · rw [Array.getElem?_eq_none (by simp; omega)] at h1
          cases h1
      exact .inr ⟨b, off, rfl, hb, fun j hj => (World.cell?_setCell_other w _ ⟨b, off + j, none⟩ u (by intro e; exact hne (congrArg Addr.block e).symm)).trans (hc j hj)⟩
theorem UW.put {w w' : World} {K : Nat} {l L : List Bool} {A A' : Option Addr} {c c' : Nat} (hK : w.heap[K]? = some (.cells #[.int .i64 (l.length : Int), .slice A (pack l).length c] 313 (0, 0))) (hR : Rd w' w'.heap.size A' (pack L)) (hB : Below w.heap.size w w') :
    (w'.cell? ⟨K, 0, none⟩ = some (.int .i64 (l.length : Int)) ∧ w'.cell? ⟨K, 1, none⟩ = some (.slice A (pack l).length c) ∧ w'.frozen? ⟨K, 0, none⟩ = false ∧ w'.frozen? ⟨K, 1, none⟩ = false) ∧
    Hid (UW ((w'.setCell ⟨K, 0, none⟩ (.int .i64 (L.length : Int))).setCell ⟨K, 1, none⟩ (.slice A' (pack L).length c')) K L ∧ w.grownBy ((w'.setCell ⟨K, 0, none⟩ (.int .i64 (L.length : Int))).setCell ⟨K, 1, none⟩ (.slice A' (pack L).length c')) (some K)) := by
  have hlt : K < w.heap.size := (Array.getElem?_eq_some_iff.1 hK).1
  have hK1 := (hB.block K hlt).trans hK
  have hK2 := heap_set_same w' K 0 (.int .i64 (L.length : Int)) 313 _ hK1
  have hK3 := heap_set_same _ K 1 (.slice A' (pack L).length c') 313 _ hK2
  refine ⟨blk_cells hK1, ⟨A', c', ?_, ?_⟩, grown_trans (grown_of_below hB _) (grown_trans (grown_set _ _ _ _) (grown_set _ _ _ _))⟩
  · rw [hK3]; simp
  · have r1 := hR.setK (i := 0) (.int .i64 (L.length : Int)) hK1
    have hK2' : (w'.setCell ⟨K, 0, none⟩ (.int .i64 (L.length : Int))).heap[K]? = some (.cells #[.int .i64 (L.length : Int), .slice A (pack l).length c] 313 (0, 0)) := by rw [hK2]; simp
    have r2 := r1.setK (i := 1) (.slice A' (pack L).length c') hK2'
    have e : ((w'.setCell ⟨K, 0, none⟩ (.int .i64 (L.length : Int))).setCell ⟨K, 1, none⟩ (.slice A' (pack L).length c')).heap.size = w'.heap.size := by simp [World.setCell]
    rw [e]
    exact r2
set_option maxHeartbeats 400000 in
theorem uput_ok (w : World) (K : Nat) (l L : List Bool) (n k : Nat) (hk : k ≤ 64) (hn : n / 2 ^ k = 0) (hf : l.length + k ≤ 8192) (hn64 : n < 18446744073709551616) (hL : L = l ++ nb n k) (h : UW w K l) :
    Calls Tryz.prog 265 #[.pointer (some ⟨K, 0, none⟩), .int .u64 (n : Int), .int .i64 (k : Int)] w fun e w' => e = .returned (.tuple #[]) ∧ UW w' K L ∧ w.grownBy w' (some K) := by
  obtain ⟨A, c, hK, hR⟩ := h
  have HP := Lib.hid (put_l l L A c n k hk hn hf hn64 hL w hR)
  obtain ⟨c0, c1, f0, f1⟩ := blk_cells hK
  have HK := Lib.hid hK
  clear hK hR hn hL
  go_enter Tryz.func265, Tryz.ntmps265
  go_wp2_with fail
  refine HP.out.mono ?_
  rintro e w1 ⟨A1, c1', rfl, R1, B1⟩
  obtain ⟨⟨d0, d1, e0, e1⟩, HU⟩ := UW.put (c' := c1') HK.out R1 B1
  clear R1 B1 c0 c1 f0 f1
  go_wp2
  go_end0
  exact ⟨rfl, HU.out.1, HU.out.2⟩
def AddRel (w : World) (K : Nat) (l : List Bool) (n : Nat) (p : Value) (wr : World) : Prop :=
  ∃ z : Nat, z ≤ n ∧ p = .int .i64 (z : Int) ∧ UW wr K (l ++ List.replicate (n - z) false) ∧ w.grownBy wr (some K)
set_option maxHeartbeats 1000000 in
theorem uadd_ok (w : World) (K : Nat) (l L : List Bool) (n : Nat) (hf : l.length + n + 1 ≤ 8192) (hL : L = l ++ uc n) (h : UW w K l) :
    Calls Tryz.prog 261 #[.pointer (some ⟨K, 0, none⟩), .int .u64 (n : Int)] w fun e w' => e = .returned (.int .i64 0) ∧ UW w' K L ∧ w.grownBy w' (some K) := by
  have HU := Lib.hid h
  obtain ⟨A, c, hK, hR⟩ := h
  obtain ⟨c0, c1, f0, f1⟩ := blk_cells hK
  clear hK hR f0 f1
  have HL := Lib.hid hL; clear hL
  have t0 : decide ((8192 : Int) - (l.length : Int) ≤ (n : Int)) = false := by simp; omega
  have hw : (0 : Int) ≤ 8192 - (l.length : Int) := by omega
  go_enter Tryz.func261, Tryz.ntmps261
  go_wp2_with fail
  go_loopw [5] (fun p wr => AddRel w K l n p wr) (fun p _ => (intOf p).toNat)
  case atStart => exact ⟨n, Nat.le_refl _, rfl, by rw [Nat.sub_self, List.replicate_zero, List.append_nil]; exact HU.out, ⟨rfl, rfl, rfl, Nat.le_refl _, fun _ _ _ => rfl⟩⟩
  case round =>
    obtain ⟨z, hz, rfl, hu, hg⟩ := hrel
    by_cases h64 : 64 ≤ z
    · have HU2 := Lib.hid (uput_ok wr K (l ++ List.replicate (n - z) false) (l ++ List.replicate (n - (z - 64)) false) 0 64 (by omega) (by simp) (by rw [List.length_append, List.length_replicate]; omega) (by omega) (by
        rw [nb_zeros, List.append_assoc, List.replicate_append_replicate]; congr 2; omega) hu)
      clear hu
      go_wp2_with fail
      refine HU2.out.mono ?_
      rintro e w1 ⟨rfl, hu1, hg1⟩
      go_wp2
      go_roundw
      case rel => exact ⟨z - 64, by omega, by go_num, hu1, grown_trans hg hg1⟩
      case measure => simp [intOf]; omega
    · have HU2 := Lib.hid (uput_ok wr K (l ++ List.replicate (n - z) false) L 1 (z + 1) (by omega) (by
          rw [Nat.div_eq_zero_iff]; right; exact Nat.one_lt_two_pow (by omega)) (by rw [List.length_append, List.length_replicate]; omega) (by omega) (by
        rw [nb_one, HL.out]; unfold uc; rw [List.append_assoc, ← List.append_assoc (List.replicate (n - z) false), List.replicate_append_replicate]; congr 3; omega) hu)
      clear hu
      go_wp2_with fail
      refine HU2.out.mono ?_
      rintro e w1 ⟨rfl, hu1, hg1⟩
      go_wp2
      go_ret
      exact ⟨rfl, hu1, grown_trans hg hg1⟩
set_option maxHeartbeats 400000 in
theorem uadd_full (w : World) (K : Nat) (l : List Bool) (n : Nat) (hl : l.length ≤ 8192) (hf : 8192 < l.length + n + 1) (h : UW w K l) :
    Calls Tryz.prog 261 #[.pointer (some ⟨K, 0, none⟩), .int .u64 (n : Int)] w fun e w' => e = .returned (.int .i64 8) ∧ w = w' := by
  obtain ⟨A, c, hK, hR⟩ := h
  obtain ⟨c0, c1, f0, f1⟩ := blk_cells hK
  clear hK hR f0 f1
  have t0 : decide ((8192 : Int) - (l.length : Int) ≤ (n : Int)) = true := by simp; omega
  have hw : (0 : Int) ≤ 8192 - (l.length : Int) := by omega
  go_enter Tryz.func261, Tryz.ntmps261
  go_wp2
  go_ret
  exact ⟨rfl, rfl⟩
end
section
open Go.RowKit
set_option maxHeartbeats 400000 in
theorem out_of (n : Nat) (w : World) : Calls Tryz.prog 260 #[.int .u64 (n : Int)] w fun e w' => e = .returned (.bool (decide (8192 ≤ n))) ∧ w = w' := by
  have e : decide (8192 ≤ n) = decide ((8192 : Int) ≤ (n : Int)) := by rw [Bool.eq_iff_iff]; simp; omega
  rw [e]
  go_enter Tryz.func260, Tryz.ntmps260
  go_wp2
  go_ret
  exact ⟨rfl, rfl⟩
def IdxRel (ns : List Nat) (p : Value) : Prop := ∃ i : Nat, i ≤ ns.length ∧ p = .int .i64 (i : Int) ∧ (ns.take i).any (fun n => decide (8192 ≤ n)) = false
theorem any_snoc (ns : List Nat) (i : Nat) (h : i < ns.length) : (ns.take (i + 1)).any (fun n => decide (8192 ≤ n)) = ((ns.take i).any (fun n => decide (8192 ≤ n)) || decide (8192 ≤ ns[i]?.getD 0)) := by
  rw [take_snoc ns i h, List.any_append]; simp
theorem any_take (ns : List Nat) (i : Nat) (h : (ns.take i).any (fun n => decide (8192 ≤ n)) = true) : ns.any (fun n => decide (8192 ≤ n)) = true := by
  rw [List.any_eq_true] at h ⊢
  obtain ⟨x, hx, hp⟩ := h
  exact ⟨x, List.mem_of_mem_take hx, hp⟩
set_option maxHeartbeats 1000000 in
theorem index_any (ns : List Nat) (A : Option Addr) (n c : Nat) (hn : ns.length = n) (hn2 : n ≤ 9223372036854775807) (w : World) (h : RdV w w.heap.size A (nc ns)) :
    Calls Tryz.prog 264 #[.slice A n c, .func (.func 260) #[] #[]] w fun e w' => (∃ i : Int, e = .returned (.int .i64 i) ∧ decide (0 ≤ i) = ns.any (fun n => decide (8192 ≤ n))) ∧ w = w' := by
  have HR := Lib.hid h; clear h
  have HN := Lib.hid hn; clear hn
  go_enter Tryz.func264, Tryz.ntmps264
  go_wp2
  go_loop [8, 5] (fun p _ => IdxRel ns p) (fun p _ => n - (intOf p).toNat)
  case atStart => exact ⟨0, Nat.zero_le _, rfl, rfl⟩
  case round =>
    obtain ⟨i, hi, rfl, ht⟩ := hrel
    rw [HN.out] at hi
    by_cases hlt : i < n
    · have hin : i < ns.length := by rw [HN.out]; exact hlt
      obtain ⟨b, off, rfl, hb, hc⟩ := HR.out.at_ (nc_get ns i hin)
      have hs := any_snoc ns i hin
      have htk := any_take ns (i + 1)
      have HT := Lib.hid ht; clear ht
      generalize ns[i]?.getD 0 = x at *
      have HC := out_of x w
      cases hd : decide (8192 ≤ x)
      · rw [hd, HT.out] at hs
        have HS := Lib.hid hs; clear hs htk
        rw [hd] at HC
        have HC' := Lib.hid HC; clear HC hd
        go_wp2_with (go_at_call 260; refine HC'.out.mono ?_; rintro e w1 ⟨rfl, rfl⟩)
        go_round
        case rel => exact ⟨i + 1, by rw [HN.out]; omega, by go_num, HS.out⟩
        case measure => simp [intOf]; omega
      · rw [hd, HT.out] at hs
        have HS := Lib.hid (htk hs); clear hs htk
        rw [hd] at HC
        have HC' := Lib.hid HC; clear HC hd
        go_wp2_with (go_at_call 260; refine HC'.out.mono ?_; rintro e w1 ⟨rfl, rfl⟩)
        go_ret
        exact ⟨⟨(i : Int), rfl, by rw [HS.out]; simp⟩, rfl⟩
    · have HT : Hid (ns.any (fun n => decide (8192 ≤ n)) = false) := by
        rw [List.take_of_length_le (by rw [HN.out]; omega)] at ht
        exact ht
      clear ht
      go_wp2
      go_ret
      exact ⟨⟨-1, rfl, by rw [HT.out]; decide⟩, rfl⟩
set_option maxHeartbeats 400000 in
theorem contains_any (ns : List Nat) (A : Option Addr) (n c : Nat) (hn : ns.length = n) (hn2 : n ≤ 9223372036854775807) (w : World) (h : RdV w w.heap.size A (nc ns)) :
    Calls Tryz.prog 259 #[.slice A n c, .func (.func 260) #[] #[]] w fun e w' => e = .returned (.bool (ns.any (fun n => decide (8192 ≤ n)))) ∧ w = w' := by
  have HC := Lib.hid (index_any ns A n c hn hn2 w h)
  clear h hn
  go_enter Tryz.func259, Tryz.ntmps259
  go_wp2_with fail
  refine HC.out.mono ?_
  rintro e w1 ⟨⟨i, rfl, hi⟩, rfl⟩
  have HI := Lib.hid hi; clear hi
  go_wp2
  go_ret
  exact ⟨congrArg (fun b => Ending.returned (.bool b)) HI.out, rfl⟩
theorem up2 (w : World) (o p : Obj) : Below w.heap.size w ((w.alloc o).alloc p) := ((Below.refl _ w).alloc (Nat.le_refl _) _).alloc (by simp) _
def ManyRel (w2 : World) (K : Nat) (ns : List Nat) (p : Value) (wr : World) : Prop :=
  ∃ i : Nat, i ≤ ns.length ∧ p = .int .i64 (i : Int) ∧ UW wr K (ucs (ns.take i)) ∧ (ucs (ns.take i)).length ≤ 8192 ∧ w2.grownBy wr (some K)
theorem ufinish {w wr : World} {K r : Nat} {L : List Bool} (hw : UW wr K L) (hr : w.heap.size ≤ r) (hrb : wr.heap[r]? = some (.cells #[.int .i64 0, .slice none 0 0] 27 (0, 0))) (hb : Below w.heap.size w wr) :
    ∃ A c, (wr.cell? ⟨K, 0, none⟩ = some (.int .i64 (L.length : Int)) ∧ wr.cell? ⟨K, 1, none⟩ = some (.slice A (pack L).length c)) ∧
      (wr.cell? ⟨r, 0, none⟩ = some (.int .i64 0) ∧ wr.cell? ⟨r, 1, none⟩ = some (.slice none 0 0) ∧ wr.frozen? ⟨r, 0, none⟩ = false ∧ wr.frozen? ⟨r, 1, none⟩ = false) ∧
      Hid (Gave w L 0 (.returned (.tuple #[.agg #[.int .i64 (L.length : Int), .slice A (pack L).length c], .int .i64 0])) ((wr.setCell ⟨r, 0, none⟩ (.int .i64 (L.length : Int))).setCell ⟨r, 1, none⟩ (.slice A (pack L).length c))) := by
  obtain ⟨A, c, hK, hR⟩ := hw
  obtain ⟨c0, c1, _, _⟩ := blk_cells hK
  refine ⟨A, c, ⟨c0, c1⟩, blk_cells hrb, A, c, rfl, ?_, (hb.setCell (p := ⟨r, 0, none⟩) hr _).setCell (p := ⟨r, 1, none⟩) hr _⟩
  have r1 := hR.setK (i := 0) (.int .i64 (L.length : Int)) hrb
  have hr2 : (wr.setCell ⟨r, 0, none⟩ (.int .i64 (L.length : Int))).heap[r]? = some (.cells #[.int .i64 (L.length : Int), .slice none 0 0] 27 (0, 0)) := by
    rw [heap_set_same _ _ _ _ 27 _ hrb]; simp
  have r2 := r1.setK (i := 1) (.slice A (pack L).length c) hr2
  have e : ((wr.setCell ⟨r, 0, none⟩ (.int .i64 (L.length : Int))).setCell ⟨r, 1, none⟩ (.slice A (pack L).length c)).heap.size = wr.heap.size := by simp [World.setCell]
  show Rd _ _ A (pack L)
  rw [e]
  exact r2
set_option maxHeartbeats 400000 in
theorem many_range (ns : List Nat) (A : Option Addr) (c : Nat) (hn2 : ns.length ≤ 9223372036854775807) (w : World) (h : RdV w w.heap.size A (nc ns)) (ha : ns.any (fun n => decide (8192 ≤ n)) = true) :
    Calls Tryz.prog 245 #[.slice A ns.length c] w (Gave w [] 3) := by
  have hc0 := contains_any ns A ns.length c rfl hn2 (w.alloc (.cells #[.int .i64 0, .slice none 0 0] 27)) (h.on (one_below w _))
  rw [ha] at hc0
  have HC := Lib.hid hc0; clear hc0 h ha
  have HB := Lib.hid (one_below w (.cells #[.int .i64 0, .slice none 0 0] 27))
  generalize ns.length = n at *
  go_enter Tryz.func245, Tryz.ntmps245
  go_wp2_with fail
  refine HC.out.mono ?_
  rintro e w1 ⟨rfl, rfl⟩
  go_wp2
  exact bodyPost_ret (v := .tuple #[.agg #[.int .i64 0, .slice none 0 0], .int .i64 3]) (by simp [results, Tryz.results245, go_sem]) rfl ⟨none, 0, rfl, .inl rfl, HB.out⟩
set_option maxHeartbeats 1000000 in
theorem many_in (ns : List Nat) (L : List Bool) (A : Option Addr) (n c : Nat) (hn : ns.length = n) (hn2 : n ≤ 9223372036854775807) (w : World) (h : RdV w w.heap.size A (nc ns)) (ha : ns.any (fun n => decide (8192 ≤ n)) = false) (hL : L = ucs ns) :
    Calls Tryz.prog 245 #[.slice A n c] w (if 8192 < L.length then Gave w [] 8 else Gave w L 0) := by
  have hc0 := contains_any ns A n c hn hn2 (w.alloc (.cells #[.int .i64 0, .slice none 0 0] 27)) (h.on (one_below w _))
  rw [ha] at hc0
  have HC := Lib.hid hc0; clear hc0 ha
  have HR := Lib.hid h; clear h
  have HN := Lib.hid hn; clear hn
  have HL := Lib.hid hL; clear hL
  have HW0 : Hid (ManyRel ((w.alloc (.cells #[.int .i64 0, .slice none 0 0] 27)).alloc (.cells #[.int .i64 0, .slice none 0 0] 313)) (w.heap.size + 1) ns (.int .i64 0) ((w.alloc (.cells #[.int .i64 0, .slice none 0 0] 27)).alloc (.cells #[.int .i64 0, .slice none 0 0] 313))) := by
    refine ⟨0, Nat.zero_le _, rfl, ⟨none, 0, ?_, .inl (by rw [List.take_zero]; rfl)⟩, by rw [List.take_zero]; exact Nat.zero_le _, ⟨rfl, rfl, rfl, Nat.le_refl _, fun _ _ _ => rfl⟩⟩
    rw [List.take_zero]
    exact two_new w _ _
  obtain ⟨w2, hw2⟩ : ∃ w2, w2 = (w.alloc (.cells #[.int .i64 0, .slice none 0 0] 27)).alloc (.cells #[.int .i64 0, .slice none 0 0] 313) := ⟨_, rfl⟩
  have HB2 : Hid (w2.heap.size = w.heap.size + 2 ∧ Below w.heap.size w w2 ∧ w2.heap[w.heap.size]? = some (.cells #[.int .i64 0, .slice none 0 0] 27)) := by
    rw [hw2]
    exact ⟨two_size w _ _, up2 w _ _, (Below.heap_alloc _ _ _ (by simp)).trans (World.alloc_heap_new w _)⟩
  have HW2 := Lib.hid hw2; clear hw2
  generalize hQ : (if 8192 < L.length then Gave w [] 8 else Gave w L 0) = Q
  have HQ := Lib.hid hQ; clear hQ
  go_enter Tryz.func245, Tryz.ntmps245
  go_wp2_with fail
  refine HC.out.mono ?_
  rintro e w1 ⟨rfl, rfl⟩
  clear HC
  go_wp2
  rw [← HW2.out] at HW0 ⊢
  clear HW2
  go_loopw [14] (fun p wr => ManyRel w2 (w.heap.size + 1) ns p wr) (fun p _ => n - (intOf p).toNat)
  case atStart => exact HW0.out
  case round =>
    obtain ⟨i, hi, rfl, hu, hul, hg⟩ := hrel
    rw [HN.out] at hi
    obtain ⟨hz2, hb2, hr2⟩ := HB2.out
    have hlow : Below w.heap.size w wr := hb2.trans ⟨hg.os, hg.tape, hg.output, hg.size, fun k hk => hg.block k (by omega) (by simp; omega)⟩
    have hrb : wr.heap[w.heap.size]? = some (.cells #[.int .i64 0, .slice none 0 0] 27) := (hg.block _ (by omega) (by simp)).trans hr2
    have HG := Lib.hid hg; clear hg
    clear hb2 hr2
    have HZ := Lib.hid hz2; clear hz2
    by_cases hlt : i < n
    · have hin : i < ns.length := by rw [HN.out]; exact hlt
      obtain ⟨b, off, rfl, hb, hc⟩ := (HR.out.below hlow (Nat.le_refl _)).at_ (nc_get ns i hin)
      have hsn : ucs (ns.take (i + 1)) = ucs (ns.take i) ++ uc (ns[i]?.getD 0) := by rw [take_snoc ns i hin, ucs_snoc]
      have hle := ucs_take_le ns (i + 1)
      rw [← HL.out, hsn, List.length_append, uc_length] at hle
      generalize ns[i]?.getD 0 = x at *
      by_cases hfit : (ucs (ns.take i)).length + x + 1 ≤ 8192
      · have HA := Lib.hid (uadd_ok wr (w.heap.size + 1) (ucs (ns.take i)) _ x hfit rfl hu)
        have HS := Lib.hid hsn; clear hsn hu
        have hul2 : (ucs (ns.take i)).length + (x + 1) ≤ 8192 := by omega
        have HLow := Lib.hid hlow; clear hlow hrb
        go_wp2_with fail
        refine HA.out.mono ?_
        rintro e w3 ⟨rfl, hu3, hg3⟩
        go_wp2
        go_roundw
        case rel => exact ⟨i + 1, by rw [HN.out]; omega, by go_num, by rw [HS.out]; exact hu3, by rw [HS.out, List.length_append, uc_length]; exact hul2, grown_trans HG.out hg3⟩
        case measure => simp [intOf]; omega
      · have HA := Lib.hid (uadd_full wr (w.heap.size + 1) (ucs (ns.take i)) x hul (by omega) hu)
        have hbig : 8192 < L.length := by omega
        rw [if_pos hbig] at HQ
        clear hsn hu hfit hle hul hbig
        obtain ⟨d0, d1, g0, g1⟩ := blk_cells hrb
        have HLow := Lib.hid hlow; clear hlow hrb
        go_wp2_with fail
        refine HA.out.mono ?_
        rintro e w3 ⟨rfl, rfl⟩
        go_wp2
        refine bodyPost_ret (v := .tuple #[.agg #[.int .i64 0, .slice none 0 0], .int .i64 8]) (by simp [results, Tryz.results245, go_sem, d0, d1]) rfl ?_
        rw [← HQ.out]
        exact gave_zero HLow.out _ (Nat.le_refl _) 8
    · have e : i = n := by omega
      rw [e, List.take_of_length_le (by rw [HN.out]; omega), ← HL.out] at hu hul
      rw [if_neg (by omega)] at HQ
      obtain ⟨A3, c3, ⟨d0, d1⟩, ⟨d2, d3, g0, g1⟩, HF⟩ := ufinish hu (Nat.le_refl _) hrb hlow
      clear hu hul hrb hlow e
      go_wp2
      refine bodyPost_ret (v := .tuple #[.agg #[.int .i64 (L.length : Int), .slice A3 (pack L).length c3], .int .i64 0]) (by simp [results, Tryz.results245, go_sem, d2, d3]) rfl ?_
      rw [← HQ.out]
      exact HF.out
theorem many_any (ns : List Nat) (A : Option Addr) (c : Nat) (hn2 : ns.length ≤ 9223372036854775807) (w : World) (h : RdV w w.heap.size A (nc ns)) :
    Calls Tryz.prog 245 #[.slice A ns.length c] w (Gave w (if manyE ns = 0 then ucs ns else []) (manyE ns)) := by
  cases ha : ns.any (fun n => decide (8192 ≤ n))
  · have h1 := many_in ns _ A ns.length c rfl hn2 w h ha rfl
    by_cases hf : 8192 < (ucs ns).length
    · have e : manyE ns = 8 := by unfold manyE; rw [ha, if_neg (by decide), if_pos hf]
      rw [if_pos hf] at h1
      rw [e, if_neg (by decide)]
      exact h1
    · have e : manyE ns = 0 := by unfold manyE; rw [ha, if_neg (by decide), if_neg hf]
      rw [if_neg hf] at h1
      rw [e, if_pos rfl]
      exact h1
  · have e : manyE ns = 3 := by unfold manyE; rw [ha, if_pos rfl]
    rw [e, if_neg (by decide)]
    exact many_range ns A c hn2 w h ha
theorem manyE_one (n : Nat) : manyE [n] = if 8192 ≤ n then 3 else 0 := by
  unfold manyE
  by_cases h : 8192 ≤ n
  · rw [if_pos (by simp; exact h), if_pos h]
  · rw [if_neg (by simp; omega), if_neg h, if_neg (by simp [ucs, uc_length]; omega)]
theorem ucs_one (n : Nat) : ucs [n] = uc n := by simp [ucs]
theorem rdv_lit1 (w : World) (n : Nat) : RdV (w.alloc (.cells #[.int .u64 (n : Int)] 58)) (w.alloc (.cells #[.int .u64 (n : Int)] 58)).heap.size (some ⟨w.heap.size, 0, none⟩) (nc [n]) := by
  refine .inr ⟨w.heap.size, 0, rfl, by simp, fun i v hi => ?_⟩
  have e := World.alloc_heap_new w (.cells #[.int .u64 (n : Int)] 58)
  rcases Nat.eq_zero_or_pos i with rfl | h
  · simp [nc] at hi
    subst hi
    exact box_cell e
  · rw [List.getElem?_eq_none (by rw [nc_length]; simp; omega)] at hi; cases hi
set_option maxHeartbeats 400000 in
theorem code_any (n : Nat) (L : List Bool) (e0 : Int) (he : e0 = if 8192 ≤ n then 3 else 0) (hL : L = if 8192 ≤ n then [] else uc n) (w : World) :
    Calls Tryz.prog 217 #[.int .u64 (n : Int)] w (Gv w (L.length : Int) (pack L).length (pack L) e0) := by
  have h1 := many_any [n] (some ⟨w.heap.size + 1, 0, none⟩) 1 (by simp) ((w.alloc (.cells #[.int .i64 0, .slice none 0 0] 27)).alloc (.cells #[.int .u64 (n : Int)] 58)) (by
    have := rdv_lit1 (w.alloc (.cells #[.int .i64 0, .slice none 0 0] 27)) n
    simp only [World.size_alloc] at this ⊢
    exact this)
  have e1 : (if manyE [n] = 0 then ucs [n] else []) = L := by
    rw [hL, manyE_one, ucs_one]
    by_cases h : 8192 ≤ n
    · rw [if_pos h, if_pos h, if_neg (by decide)]
    · rw [if_neg h, if_neg h, if_pos rfl]
  rw [e1, manyE_one, ← he] at h1
  have HC := Lib.hid h1; clear h1 he hL e1
  go_enter Tryz.func217, Tryz.ntmps217
  go_wp2_with fail
  refine HC.out.mono ?_
  rintro e w1 ⟨A1, c1, rfl, R1, B1⟩
  have hs := two_size w (.cells #[.int .i64 0, .slice none 0 0] 27) (.cells #[.int .u64 (n : Int)] 58)
  have hs' : ((w.alloc (.cells #[.int .i64 0, .slice none 0 0] 27)).alloc (.cells #[.int .u64 (n : Int)] 58)).heap.size = w.heap.size + 2 := hs
  rw [hs'] at B1
  have hrb : w1.heap[w.heap.size]? = some (.cells #[.int .i64 0, .slice none 0 0] 27 (0, 0)) := (B1.block _ (by omega)).trans ((Below.heap_alloc _ _ _ (by simp)).trans (World.alloc_heap_new w _))
  have hlow : Below w.heap.size w w1 := (up2 w _ _).trans (B1.mono (by omega))
  obtain ⟨d0, d1, g0, g1⟩ := blk_cells hrb
  have HG : Hid (Gv w (L.length : Int) (pack L).length (pack L) e0 (.returned (.tuple #[.agg #[.int .i64 (L.length : Int), .slice A1 (pack L).length c1], .int .i64 e0])) ((w1.setCell ⟨w.heap.size, 0, none⟩ (.int .i64 (L.length : Int))).setCell ⟨w.heap.size, 1, none⟩ (.slice A1 (pack L).length c1))) := by
    refine ⟨A1, c1, rfl, ?_, (hlow.setCell (p := ⟨w.heap.size, 0, none⟩) (Nat.le_refl _) _).setCell (p := ⟨w.heap.size, 1, none⟩) (Nat.le_refl _) _⟩
    have r1 := R1.setK (i := 0) (.int .i64 (L.length : Int)) hrb
    have hr2 : (w1.setCell ⟨w.heap.size, 0, none⟩ (.int .i64 (L.length : Int))).heap[w.heap.size]? = some (.cells #[.int .i64 (L.length : Int), .slice none 0 0] 27 (0, 0)) := by
      rw [heap_set_same _ _ _ _ 27 _ hrb]; simp
    have r2 := r1.setK (i := 1) (.slice A1 (pack L).length c1) hr2
    have e : ((w1.setCell ⟨w.heap.size, 0, none⟩ (.int .i64 (L.length : Int))).setCell ⟨w.heap.size, 1, none⟩ (.slice A1 (pack L).length c1)).heap.size = w1.heap.size := by simp [World.setCell]
    rw [e]
    exact r2
  clear hrb hlow hs hs' R1 B1
  go_wp2
  exact bodyPost_ret (v := .tuple #[.agg #[.int .i64 (L.length : Int), .slice A1 (pack L).length c1], .int .i64 e0]) (by simp [results, Tryz.results217, go_sem, d0, d1]) rfl HG.out
end
section
open Go.RowKit Go.Shelf
attribute [local go_sem] Oper.semAt_some
def pos : Nat → List Bool → List Nat
  | _, [] => []
  | o, true :: l => o :: pos (o + 1) l
  | o, false :: l => pos (o + 1) l
theorem pos_length (l : List Bool) : ∀ o, (pos o l).length ≤ l.length := by
  induction l with
  | nil => intro o; simp [pos]
  | cons x l ih => intro o; cases x <;> simp [pos] <;> have := ih (o + 1) <;> omega
theorem pos_bound (l : List Bool) : ∀ o, ∀ x ∈ pos o l, o ≤ x ∧ x < o + l.length := by
  induction l with
  | nil => intro o x hx; simp [pos] at hx
  | cons b l ih =>
    intro o x hx
    cases b
    · have := ih (o + 1) x hx; simp; omega
    · rcases List.mem_cons.1 hx with rfl | h
      · simp
      · have := ih (o + 1) x h; simp; omega
theorem pos_append (a b : List Bool) : ∀ o, pos o (a ++ b) = pos o a ++ pos (o + a.length) b := by
  induction a with
  | nil => intro o; simp [pos]
  | cons x a ih =>
    intro o
    cases x <;> simp [pos, ih, Nat.add_assoc, Nat.add_comm 1]
theorem pos_prefix (o : Nat) (m a b : List Bool) (h : m = a ++ b) : pos o a <+: pos o m := by
  rw [h, pos_append]; exact List.prefix_append _ _
def clamp (fr x : Nat) : Nat := max fr (min x 8191)
theorem clamp_of (fr x : Nat) (h : fr ≤ x) (h2 : x < 8192) : clamp fr x = x := by unfold clamp; omega
theorem get_bit (l : List Bool) (hl : l.length ≤ 8192) (A : Option Addr) (c i : Nat) (hi : i < l.length) (w : World) (h : Rd w w.heap.size A (pack l)) :
    Calls Tryz.prog 66 #[.agg #[.int .i64 (l.length : Int), .slice A (pack l).length c], .int .i64 (i : Int), .int .i64 1] w fun e w' => e = .returned (.tuple #[.int .u64 ((l[i]?.getD false).toNat : Int), .int .i64 0]) ∧ Below w.heap.size w w' := by
  refine get_l l hl A c i 1 _ (by omega) (by omega) ?_ w h
  rw [List.take_one, List.head?_drop, List.getElem?_eq_getElem hi]
  simp [num]
theorem six (w : World) (a b c d e f : Obj) : (((((((w.alloc a).alloc b).alloc c).alloc d).alloc e).alloc f).heap.size = w.heap.size + 6) ∧
    ((((((w.alloc a).alloc b).alloc c).alloc d).alloc e).alloc f).heap[w.heap.size]? = some a ∧ ((((((w.alloc a).alloc b).alloc c).alloc d).alloc e).alloc f).heap[w.heap.size + 1]? = some b ∧
    ((((((w.alloc a).alloc b).alloc c).alloc d).alloc e).alloc f).heap[w.heap.size + 2]? = some c ∧ ((((((w.alloc a).alloc b).alloc c).alloc d).alloc e).alloc f).heap[w.heap.size + 3]? = some d ∧
    ((((((w.alloc a).alloc b).alloc c).alloc d).alloc e).alloc f).heap[w.heap.size + 4]? = some e ∧ ((((((w.alloc a).alloc b).alloc c).alloc d).alloc e).alloc f).heap[w.heap.size + 5]? = some f := by
  obtain ⟨hz, h0, h1, h2, h3⟩ := four w a b c d
  generalize ((((w.alloc a).alloc b).alloc c).alloc d) = v at *
  have n4 := World.alloc_heap_new v e
  have n5 := World.alloc_heap_new (v.alloc e) f
  rw [World.size_alloc] at n5
  have low : ∀ k, k < v.heap.size → ((v.alloc e).alloc f).heap[k]? = v.heap[k]? := fun k hk => by
    rw [Below.heap_alloc _ _ _ (by rw [World.size_alloc]; omega), Below.heap_alloc _ _ _ hk]
  refine ⟨by simp only [World.size_alloc]; omega, ?_, ?_, ?_, ?_, ?_, ?_⟩
  · rw [low _ (by omega)]; exact h0
  · rw [low _ (by omega)]; exact h1
  · rw [low _ (by omega)]; exact h2
  · rw [low _ (by omega)]; exact h3
  · rw [Below.heap_alloc _ _ _ (by rw [World.size_alloc]; omega), ← hz]; exact n4
  · rw [show w.heap.size + 5 = v.heap.size + 1 by omega]; exact n5
def eqs (v : Bool) (l : List Bool) : List Bool := l.map fun b => b == v
theorem eqs_append (v : Bool) (a b : List Bool) : eqs v (a ++ b) = eqs v a ++ eqs v b := by simp [eqs]
theorem eqs_length (v : Bool) (l : List Bool) : (eqs v l).length = l.length := by simp [eqs]
theorem eqs_true (l : List Bool) : eqs true l = l := by
  unfold eqs
  induction l with
  | nil => rfl
  | cons b l ih => rw [List.map_cons, ih]; cases b <;> rfl
def vis (v : Bool) (l : List Bool) (fr to : Nat) : List Nat := pos fr (eqs v ((l.drop fr).take (to - fr)))
theorem vis_all (l : List Bool) (fr n : Nat) (h : n = l.length) : vis true l fr n = pos fr (l.drop fr) := by
  unfold vis
  rw [eqs_true, List.take_of_length_le (by rw [List.length_drop]; omega)]
theorem vis_at (v : Bool) (l : List Bool) (fr : Nat) : vis v l fr fr = [] := by unfold vis; rw [Nat.sub_self, List.take_zero]; rfl
theorem vis_succ (v : Bool) (l : List Bool) (fr i : Nat) (hi : i < l.length) (hf : fr ≤ i) : vis v l fr (i + 1) = vis v l fr i ++ (if (l[i]?.getD false == v) = true then [i] else []) := by
  unfold vis
  rw [take_bits l fr i hi hf, eqs_append, pos_append, eqs_length, List.length_take, List.length_drop, Nat.min_eq_left (by omega), show fr + (i - fr) = i from by omega]
  congr 1
  unfold eqs
  generalize l[i]?.getD false = x
  rw [List.map_cons, List.map_nil]
  generalize (x == v) = y
  cases y <;> rfl
theorem vis_length (v : Bool) (l : List Bool) (fr to : Nat) : (vis v l fr to).length ≤ to - fr := by
  unfold vis
  refine Nat.le_trans (pos_length _ _) ?_
  rw [eqs_length, List.length_take]; omega
theorem vis_bound (v : Bool) (l : List Bool) (fr to : Nat) (x : Nat) (h : x ∈ vis v l fr to) : fr ≤ x ∧ x < to ∧ x < l.length := by
  have := pos_bound _ _ x h
  rw [eqs_length, List.length_take, List.length_drop] at this
  omega
theorem vis_prefix (v : Bool) (l : List Bool) (fr i to : Nat) (h : i ≤ to) : vis v l fr i <+: vis v l fr to := by
  unfold vis
  have e : (l.drop fr).take (to - fr) = (l.drop fr).take (i - fr) ++ ((l.drop fr).take (to - fr)).drop (i - fr) := by
    conv => lhs; rw [← List.take_append_drop (i - fr) ((l.drop fr).take (to - fr))]
    rw [List.take_take, Nat.min_eq_left (by omega)]
  exact pos_prefix fr _ (eqs v ((l.drop fr).take (i - fr))) (eqs v (((l.drop fr).take (to - fr)).drop (i - fr))) (by rw [← eqs_append, ← e])
theorem eq_cast (a b : Bool) : ((((a.toNat : Nat) : Int)) == (((b.toNat : Nat) : Int))) = (a == b) := by cases a <;> cases b <;> rfl
set_option maxRecDepth 100000 in
set_option maxHeartbeats 1000000 in
theorem of1_in (n : Nat) (hn : 2 ≤ n) (lp Bf Bt Bb Bv B0 c : Nat) (A : Option Addr) (Q : Nat → Prop) (l : List Bool) (hl : l.length ≤ 8192) (v : Bool) (fr to : Nat) (hft : fr ≤ to) (hto : to ≤ l.length) (J Jx : List Nat → World → Prop)
    (hQt : Q Bt) (hQb : Q Bb) (hQv : Q Bv) (hQ : ∀ k, k < B0 → Q k)
    (W : World) (hQW : ∀ k, Q k → k < W.heap.size) (hJa : AbidesFrom W.heap.size J)
    (hY : ∀ pre x W, J pre W → pre.length < to - fr → YieldAt Fence.wide (n - 1) Tryz.prog lp #[.int .i64 (clamp fr x : Int)] W fun e W' =>
      (e = .returned (.bool true) ∧ J (pre ++ [x]) W' ∧ (KeepQ Q W W' ∧ W.heap.size ≤ W'.heap.size)) ∨ (e = .returned (.bool false) ∧ Jx (pre ++ [x]) W'))
    (hBf : W.cell? ⟨Bf, 0, none⟩ = some (.int .i64 (fr : Int))) (hBt : W.cell? ⟨Bt, 0, none⟩ = some (.int .i64 (to : Int))) (hBv : W.cell? ⟨Bv, 0, none⟩ = some (.int .u64 (v.toNat : Int))) (hBb0 : W.cell? ⟨Bb, 0, none⟩ = some (.int .i64 (l.length : Int))) (hBb : W.cell? ⟨Bb, 1, none⟩ = some (.slice A (pack l).length c))
    (hRd : Rd W B0 A (pack l)) (hB0 : B0 ≤ W.heap.size) (h0 : J [] W) :
    CallsIn Fence.wide n Tryz.prog 257 #[.func (.yield lp) #[] #[], .pointer (some ⟨Bf, 0, none⟩), .pointer (some ⟨Bt, 0, none⟩), .pointer (some ⟨Bb, 0, none⟩), .pointer (some ⟨Bv, 0, none⟩)] W fun e W' => (∃ v, e = .returned v) ∧
      ((∃ ys, ys = vis v l fr to ∧ J ys W') ∨ (∃ pre, pre <+: vis v l fr to ∧ Jx pre W')) := by
  refine callsIn_of_wp Tryz.func257 rfl trivial ?_ rfl
  simp only [Tryz.ntmps257, List.size_toArray, List.length_cons, List.length_nil, Nat.reduceAdd, Nat.reduceSub, Array.replicate_succ, Array.replicate_zero, List.push_toArray, List.append_toArray, List.nil_append, List.cons_append]
  gi_wp2
  gi_loopw [6] (fun p wr => ∃ i : Nat, fr ≤ i ∧ i ≤ to ∧ p = .int .i64 (i : Int) ∧ KeepQ Q W wr ∧ W.heap.size ≤ wr.heap.size ∧ J (vis v l fr i) wr)
    (fun p _ => to - (intOf p).toNat)
  case atStart =>
    exact ⟨fr, Nat.le_refl _, hft, rfl, fun _ _ => rfl, Nat.le_refl _, by rw [vis_at]; exact h0⟩
  case round =>
    obtain ⟨i, hi1, hi2, rfl, hk, hsz, hJ⟩ := hrel
    have ct : wr.cell? ⟨Bt, 0, none⟩ = some (.int .i64 (to : Int)) := (World.cell?_of_block (w := W) (a := ⟨Bt, 0, none⟩) (hk Bt hQt)).trans hBt
    by_cases hlt : i < to
    · have cb0 : wr.cell? ⟨Bb, 0, none⟩ = some (.int .i64 (l.length : Int)) := (World.cell?_of_block (w := W) (a := ⟨Bb, 0, none⟩) (hk Bb hQb)).trans hBb0
      have cb : wr.cell? ⟨Bb, 1, none⟩ = some (.slice A (pack l).length c) := (World.cell?_of_block (w := W) (a := ⟨Bb, 1, none⟩) (hk Bb hQb)).trans hBb
      have HG := Lib.hid (get_bit l hl A c i (by omega) wr (hRd.keep (by omega) (fun k hk' => hk k (hQ k hk'))))
      have HT := Lib.hid (vis_succ v l fr i (by omega) hi1)
      have hJw := fun W' (hb : Below wr.heap.size wr W') => hJa _ wr W' none hJ (grown_of_below hb none) (fun r e => by cases e)
      have HK := Lib.hid (⟨hk, hsz⟩ : KeepQ Q W wr ∧ W.heap.size ≤ wr.heap.size)
      have HJW := Lib.hid hJw
      have hcv := fun w1 (hb : Below wr.heap.size wr w1) => (World.cell?_of_block (w := W) (w' := w1) (a := ⟨Bv, 0, none⟩) ((hb.block Bv (by have := hQW Bv hQv; omega)).trans (hk Bv hQv))).trans hBv
      have HCV := Lib.hid hcv
      clear hk hsz hJw hJ hcv
      by_cases hx : l[i]?.getD false = v
      · rw [hx] at HG
        have hbe : (v == v) = true := by simp
        replace HT : Hid (vis v l fr (i + 1) = vis v l fr i ++ [i]) := by
          have := HT.out
          rw [hx, hbe, if_pos rfl] at this
          exact this
        clear hx hbe
        gi_wp2_with fail
        refine ⟨trivial, fun _ => by omega, ?_⟩
        refine (callsIn_wide.2 HG.out).mono ?_
        rintro e w1 ⟨rfl, hb1⟩
        have cv := HCV.out _ hb1
        have hx := clamp_of fr i hi1 (by omega)
        obtain ⟨fn, tmps, assign, body, hy, hR⟩ := hY _ i w1 (HJW.out _ hb1) (by
          have := vis_length v l fr i
          omega)
        rw [hx] at hy
        clear hx
        have HB1 := Lib.hid hb1; clear hb1
        gi_wp2
        refine ⟨fun _ => by omega, hR.mono ?_⟩
        rintro e W3 (⟨rfl, hJ3, hk3, hs3⟩ | ⟨rfl, hJx3⟩)
        · gi_wp2
          go_roundw
          case rel =>
            refine ⟨i + 1, by omega, by omega, by go_num, fun k hq => (hk3 k hq).trans ((HB1.out.block k (by have := hQW k hq; have := HK.out.2; omega)).trans (HK.out.1 k hq)), Nat.le_trans HK.out.2 (Nat.le_trans HB1.out.size hs3), ?_⟩
            rw [HT.out]
            exact hJ3
          case measure => simp [intOf]; omega
        · gi_wp2
          refine bodyPost_ret (results_none rfl _ _ _) rfl ?_
          refine ⟨⟨_, rfl⟩, .inr ⟨_, ?_, hJx3⟩⟩
          rw [← HT.out]
          exact vis_prefix v l fr (i + 1) to (by omega)
      · have hbe : (l[i]?.getD false == v) = false := by simpa using hx
        have hne : ((((l[i]?.getD false).toNat : Nat) : Int) == ((v.toNat : Nat) : Int)) = false := by rw [eq_cast]; exact hbe
        replace HT : Hid (vis v l fr (i + 1) = vis v l fr i) := by
          have := HT.out
          rw [hbe, if_neg (by decide), List.append_nil] at this
          exact this
        clear hx hbe
        generalize l[i]?.getD false = x at *
        gi_wp2_with fail
        refine ⟨trivial, fun _ => by omega, ?_⟩
        refine (callsIn_wide.2 HG.out).mono ?_
        rintro e w1 ⟨rfl, hb1⟩
        have cv := HCV.out _ hb1
        have HB1 := Lib.hid hb1; clear hb1
        gi_wp2
        refine ⟨fun _ h => (by cases h), ?_⟩
        gi_wp2
        go_roundw
        case rel =>
          refine ⟨i + 1, by omega, by omega, by go_num, fun k hq => (HB1.out.block k (by have := hQW k hq; have := HK.out.2; omega)).trans (HK.out.1 k hq), Nat.le_trans HK.out.2 HB1.out.size, ?_⟩
          rw [HT.out]
          exact HJW.out _ HB1.out
        case measure => simp [intOf]; omega
    · have e : i = to := by omega
      have HJ : Hid (J (vis v l fr to) wr) := by
        rw [e] at hJ
        exact hJ
      clear e hJ
      gi_wp2
      go_end0
      exact ⟨⟨_, rfl⟩, .inl ⟨_, rfl, HJ.out⟩⟩
def KeepS (Q : Nat → Prop) (W W' : World) : Prop := KeepQ Q W W' ∧ W.heap.size ≤ W'.heap.size
theorem keepS_t {Q : Nat → Prop} {A B C : World} (h : KeepS Q A B) (k : KeepS Q B C) : KeepS Q A C := ⟨keepQ_t h.1 k.1, Nat.le_trans h.2 k.2⟩
theorem keepS_b {Q : Nat → Prop} {w : World} (hn : ∀ k, Q k → k < w.heap.size) (W : World) (l : Nat) (o o' : Obj) (hl : w.heap.size ≤ l) (h : W.heap[l]? = some o) (h1 : o.isCells = false) (h2 : o.isWalk = false) : KeepS Q W (W.putObj l o') :=
  ⟨keepQ_b hn W l o o' hl h h1 h2, by simp⟩
theorem of_stops (n : Nat) (hn : 2 ≤ n) (Bf Bt Bb Bv B0 c : Nat) (A : Option Addr) (Q : Nat → Prop) (l : List Bool) (hl : l.length ≤ 8192) (v : Bool) (fr to : Nat) (hft : fr ≤ to) (hto : to ≤ l.length)
    (hQt : Q Bt) (hQb : Q Bb) (hQv : Q Bv) (hQ : ∀ k, k < B0 → Q k) (w : World) (hQw : ∀ k, Q k → k < w.heap.size) (hB0 : B0 ≤ w.heap.size) (kf : Bf < w.heap.size)
    (hBf : w.cell? ⟨Bf, 0, none⟩ = some (.int .i64 (fr : Int))) (hBt : w.cell? ⟨Bt, 0, none⟩ = some (.int .i64 (to : Int))) (hBv : w.cell? ⟨Bv, 0, none⟩ = some (.int .u64 (v.toNat : Int))) (hBb0 : w.cell? ⟨Bb, 0, none⟩ = some (.int .i64 (l.length : Int))) (hBb : w.cell? ⟨Bb, 1, none⟩ = some (.slice A (pack l).length c)) (hRd : Rd w B0 A (pack l)) :
    SeqStopsK Fence.wide n Tryz.prog 257 #[.pointer (some ⟨Bf, 0, none⟩), .pointer (some ⟨Bt, 0, none⟩), .pointer (some ⟨Bb, 0, none⟩), .pointer (some ⟨Bv, 0, none⟩)] (fun x : Nat => #[Value.int .i64 (clamp fr x : Int)]) (KeepS Q) (fun ys => ys = vis v l fr to) (fun pre => pre <+: vis v l fr to) (to - fr) w :=
  fun lp J Jx W hW hJ _ hY h0 =>
    of1_in n hn lp Bf Bt Bb Bv B0 c A Q l hl v fr to hft hto J Jx hQt hQb hQv hQ W (fun k hk => Nat.lt_of_lt_of_le (hQw k hk) hW.size) hJ hY ((hW.cell (p := ⟨Bf, 0, none⟩) kf).trans hBf) ((hW.cell (p := ⟨Bt, 0, none⟩) (hQw Bt hQt)).trans hBt) ((hW.cell (p := ⟨Bv, 0, none⟩) (hQw Bv hQv)).trans hBv) ((hW.cell (p := ⟨Bb, 0, none⟩) (hQw Bb hQb)).trans hBb0) ((hW.cell (p := ⟨Bb, 1, none⟩) (hQw Bb hQb)).trans hBb) (hRd.below (hW.mono hB0) (Nat.le_refl _)) (Nat.le_trans hB0 hW.size) h0
set_option maxHeartbeats 1000000 in
/-- The maker of the visit. -/
theorem of_in (n : Nat) (fr to : Int) (v : Int) (len : Int) (A : Option Addr) (m c : Nat) (w : World) :
    CallsIn Fence.wide n Tryz.prog 237 #[.agg #[.int .i64 len, .slice A m c], .int .u64 v, .int .i64 fr, .int .i64 to] w fun e w' => e = .returned (.func (.func 257) #[] #[.pointer (some ⟨w.heap.size + 2, 0, none⟩), .pointer (some ⟨w.heap.size + 3, 0, none⟩), .pointer (some ⟨w.heap.size, 0, none⟩), .pointer (some ⟨w.heap.size + 1, 0, none⟩)]) ∧
      w' = (((w.alloc (.cells #[.int .i64 len, .slice A m c] 27)).alloc (.cells #[.int .u64 v] 58)).alloc (.cells #[.int .i64 fr] 3)).alloc (.cells #[.int .i64 to] 3) := by
  refine callsIn_of_wp Tryz.func237 rfl trivial ?_ rfl
  simp only [Tryz.ntmps237, List.size_toArray, List.length_cons, List.length_nil, Nat.reduceAdd, Nat.reduceSub, Array.replicate_succ, Array.replicate_zero, List.push_toArray, List.append_toArray, List.nil_append, List.cons_append]
  gi_wp2
  go_ret
  exact ⟨rfl, rfl⟩
end
section
open Go.RowKit Go.Shelf
attribute [local go_sem] Oper.semAt_some
def ReadP (w : World) (n to : Nat) (err : Int) (e : Ending) (w' : World) : Prop := e = .returned (.tuple #[.int .u64 (n : Int), .int .i64 (to : Int), .int .i64 err]) ∧ Below w.heap.size w w'
def r5 (w : World) (len : Int) (A : Option Addr) (n c : Nat) (p : Int) : World := ((((w.alloc (.cells #[.int .i64 len, .slice A n c] 27)).alloc (.cells #[.int .i64 p] 3)).alloc (.cells #[.int .u64 0] 58)).alloc (.cells #[.int .i64 0] 3)).alloc (.cells #[.int .i64 0] 28)
theorem r5_facts (w : World) (len : Int) (A : Option Addr) (n c : Nat) (p : Int) : (r5 w len A n c p).heap.size = w.heap.size + 5 ∧ Below w.heap.size w (r5 w len A n c p) ∧
    (r5 w len A n c p).heap[w.heap.size + 1]? = some (.cells #[.int .i64 p] 3) ∧ (r5 w len A n c p).heap[w.heap.size + 2]? = some (.cells #[.int .u64 0] 58) ∧ (r5 w len A n c p).heap[w.heap.size + 3]? = some (.cells #[.int .i64 0] 3) ∧ (r5 w len A n c p).heap[w.heap.size + 4]? = some (.cells #[.int .i64 0] 28) := by
  unfold r5
  obtain ⟨h0, _, h2, h3, h4⟩ := five w (.cells #[.int .i64 len, .slice A n c] 27) (.cells #[.int .i64 p] 3) (.cells #[.int .u64 0] 58) (.cells #[.int .i64 0] 3) (.cells #[.int .i64 0] 28)
  refine ⟨h0, ((up2 w _ _).alloc (by simp only [World.size_alloc]; omega) _).alloc (by simp only [World.size_alloc]; omega) _ |>.alloc (by simp only [World.size_alloc]; omega) _, ?_, h2, h3, h4⟩
  have n1 := World.alloc_heap_new (w.alloc (.cells #[.int .i64 len, .slice A n c] 27)) (.cells #[.int .i64 p] 3)
  simp only [World.size_alloc] at n1
  rw [Below.heap_alloc _ _ _ (by simp only [World.size_alloc]; omega), Below.heap_alloc _ _ _ (by simp only [World.size_alloc]; omega), Below.heap_alloc _ _ _ (by simp only [World.size_alloc]; omega)]
  exact n1
theorem check_r5 (len : Int) (A : Option Addr) (c : Nat) (bs : List Nat) (p : Int) (w : World) (hb : ∀ b ∈ bs, b < 256) (h : Rd w w.heap.size A bs) :
    Calls Tryz.prog 53 #[.agg #[.int .i64 len, .slice A bs.length c]] (r5 w len A bs.length c p) fun e w' => e = .returned (.int .i64 (chk len bs)) ∧ Below (w.heap.size + 5) (r5 w len A bs.length c p) w' := by
  obtain ⟨hz, hl, _⟩ := r5_facts w len A bs.length c p
  have := check_any len A c bs (r5 w len A bs.length c p) hb (h.below hl hl.size)
  rwa [hz] at this
def rkept (s N : Nat) (k : Nat) : Prop := k < s + 2 ∨ k = N ∨ k = N + 1 ∨ k = N + 3
set_option maxRecDepth 100000 in
set_option maxHeartbeats 2000000 in
theorem read_in (l : List Bool) (hl : l.length ≤ 8192) (A : Option Addr) (c : Nat) (p : Nat) (w : World) (h : Rd w w.heap.size A (pack l)) (hp : p ≤ l.length) (rn rt : Nat) (re : Int)
    (hr : (pos p (l.drop p) = [] ∧ rn = 0 ∧ rt = 0 ∧ re = 7) ∨ (∃ x xs, pos p (l.drop p) = x :: xs ∧ rn = x - p ∧ rt = x + 1 ∧ re = 0)) :
    Calls Tryz.prog 228 #[.agg #[.int .i64 (l.length : Int), .slice A (pack l).length c], .int .i64 (p : Int)] w (ReadP w rn rt re) := by
  have hc0 := check_r5 (l.length : Int) A c (pack l) (p : Int) w (pack_lt l) h
  rw [chk_pack l hl] at hc0
  have HC := Lib.hid hc0; clear hc0
  have HF := Lib.hid (r5_facts w (l.length : Int) A (pack l).length c (p : Int))
  have HR := Lib.hid h; clear h
  rw [← vis_all l p l.length rfl] at hr
  have HP := Lib.hid hr; clear hr
  have t1 : decide ((p : Int) < 0) = false := by simp
  have t2 : decide ((l.length : Int) < (p : Int)) = false := by simp; omega
  refine (callsIn_wide (n := 4)).1 ?_
  refine callsIn_of_wp_marks Tryz.func228 rfl trivial ?_ rfl
  simp only [Tryz.ntmps228, List.size_toArray, List.length_cons, List.length_nil, Nat.reduceAdd, Nat.reduceSub, Array.replicate_succ, Array.replicate_zero, List.push_toArray, List.append_toArray, List.nil_append, List.cons_append]
  gi_wp2_with (first | (refine ⟨trivial, ?_⟩; gi_at_call 237; refine (of_in 3 _ _ _ _ _ _ _ _).mono ?_; rintro e w' ⟨rfl, rfl⟩) | (refine ⟨trivial, ?_⟩; gi_at_call 53; refine (callsIn_wide.2 HC.out).mono ?_; rintro e w1 ⟨rfl, hq⟩; unfold r5 at hq; obtain ⟨hc1, hf1⟩ := old_cells hq; have hs1 : w.heap.size + 5 ≤ w1.heap.size := (by have := hq.size; rw [show (((((w.alloc _).alloc _).alloc _).alloc _).alloc _).heap.size = w.heap.size + 5 from (r5_facts w (l.length : Int) A (pack l).length c (p : Int)).1] at this; exact this); have hs2 : w.heap.size + 1 < w1.heap.size := (by omega)))
  simp only [Nat.add_assoc, Nat.reduceAdd]
  obtain ⟨hz0, hl0, k1, k2, k3, k4⟩ := HF.out
  have hw0 : Below w.heap.size w w1 := hl0.trans (hq.mono (by omega))
  have b1 := (hq.block (w.heap.size + 1) (by omega)).trans k1
  have b2 := (hq.block (w.heap.size + 2) (by omega)).trans k2
  have b3 := (hq.block (w.heap.size + 3) (by omega)).trans k3
  have b4 := (hq.block (w.heap.size + 4) (by omega)).trans k4
  clear hz0 hl0 k1 k2 k3 k4 hc1 hf1 HF hq
  obtain ⟨hz, a0, a1, a2, a3⟩ := four w1 (.cells #[.int .i64 (l.length : Int), .slice A (pack l).length c] 27) (.cells #[.int .u64 1] 58) (.cells #[.int .i64 (p : Int)] 3) (.cells #[.int .i64 (l.length : Int)] 3)
  have hup : Below w1.heap.size w1 ((((w1.alloc (.cells #[.int .i64 (l.length : Int), .slice A (pack l).length c] 27)).alloc (.cells #[.int .u64 1] 58)).alloc (.cells #[.int .i64 (p : Int)] 3)).alloc (.cells #[.int .i64 (l.length : Int)] 3)) := ((up2 w1 _ _).alloc (by simp only [World.size_alloc]; omega) _).alloc (by simp only [World.size_alloc]; omega) _
  generalize ((((w1.alloc (.cells #[.int .i64 (l.length : Int), .slice A (pack l).length c] 27)).alloc (.cells #[.int .u64 1] 58)).alloc (.cells #[.int .i64 (p : Int)] 3)).alloc (.cells #[.int .i64 (l.length : Int)] 3)) = w5 at *
  replace b1 := (hup.block _ (by omega)).trans b1
  replace b2 := (hup.block _ (by omega)).trans b2
  replace b3 := (hup.block _ (by omega)).trans b3
  replace b4 := (hup.block _ (by omega)).trans b4
  have hlow : Below w.heap.size w w5 := hw0.trans (hup.mono (by omega))
  clear hup hw0
  have hvis : ∀ k, rkept w.heap.size w1.heap.size k → k < w5.heap.size := by rintro k (h | h | h | h) <;> omega
  refine wpIn_rangeFunc_ownG rfl (by decide) (gf := 257) (lb := #[.pointer (some ⟨w1.heap.size + 2, 0, none⟩), .pointer (some ⟨w1.heap.size + 3, 0, none⟩), .pointer (some ⟨w1.heap.size, 0, none⟩), .pointer (some ⟨w1.heap.size + 1, 0, none⟩)]) rfl trivial (enters_of Tryz.func257 (by kernel_rfl) rfl)
    (of_stops 3 (by decide) (w1.heap.size + 2) (w1.heap.size + 3) w1.heap.size (w1.heap.size + 1) w.heap.size c A (rkept w.heap.size w1.heap.size) l hl true p l.length hp (Nat.le_refl _) (.inr (.inr (.inr rfl))) (.inr (.inl rfl)) (.inr (.inr (.inl rfl))) (fun k hk => .inl (by omega)) w5 hvis (by omega) (by omega)
      (box_cell a2) (box_cell a3) (box_cell a1) (blk_cells a0).1 (blk_cells a0).2.1 (HR.out.below hlow (Nat.le_refl _)))
    (fun h k => keepS_t h k) (keepS_b hvis) (Below.refl _ _) (fun _ => rfl)
    (fun pre X => (pre = [] ∧ Boxed X (w.heap.size + 2) 58 (.int .u64 0) ∧ Boxed X (w.heap.size + 3) 3 (.int .i64 0) ∧ Boxed X (w.heap.size + 4) 28 (.int .i64 0)) ∧ (Fr (rkept w.heap.size w1.heap.size) w5 X ∧ w5.heap.size ≤ X.heap.size))
    (fun cd pre X => (cd = .ret ∧ ∃ x, pre = [x] ∧ Boxed X (w.heap.size + 2) 58 (.int .u64 ((clamp p x - p : Nat) : Int)) ∧ Boxed X (w.heap.size + 3) 3 (.int .i64 ((clamp p x + 1 : Nat) : Int)) ∧ Boxed X (w.heap.size + 4) 28 (.int .i64 0)) ∧ (Fr (rkept w.heap.size w1.heap.size) w5 X ∧ w5.heap.size ≤ X.heap.size))
    (OwnFrom.and (Own.from (fun s X Y row hs hg hr => ⟨hs.1, box_own _ 58 (fun _ : Unit => .int .u64 0) () X Y row hs.2.1 hg hr, box_own _ 3 (fun _ : Unit => .int .i64 0) () X Y row hs.2.2.1 hg hr, box_own _ 28 (fun _ : Unit => .int .i64 0) () X Y row hs.2.2.2 hg hr⟩) _) (fr_own _ w5 w5.heap.size (Nat.le_refl _) hvis))
    (fun cd => OwnFrom.and (Own.from (fun s X Y row hs hg hr => by
      obtain ⟨h1, x, h2, h3, h4, h5⟩ := hs
      exact ⟨h1, x, h2, box_own _ 58 (fun _ : Unit => _) () X Y row h3 hg hr, box_own _ 3 (fun _ : Unit => _) () X Y row h4 hg hr, box_own _ 28 (fun _ : Unit => _) () X Y row h5 hg hr⟩) _) (fr_own _ w5 w5.heap.size (Nat.le_refl _) hvis))
    ⟨⟨rfl, b2, b3, b4⟩, Fr.refl _ _, Nat.le_refl _⟩
    ?a1 ?assign ?body ?done ?stop
  case assign =>
    intro lp x X K hK
    gi_wp2
    exact hK
  case body =>
    rintro lp pre x X ⟨⟨rfl, h2, h3, h4⟩, hfr, hzz⟩ hlt
    have ca : X.cell? ⟨w.heap.size + 1, 0, none⟩ = some (.int .i64 (p : Int)) := box_cell ((hfr.block _ (.inl (by omega))).trans b1)
    have c2 := h2.cell
    have c3 := h3.cell
    have c4 := h4.cell
    have f2 := h2.frozen
    have f3 := h3.frozen
    have f4 := h4.frozen
    have hcl : p ≤ clamp p x ∧ clamp p x ≤ 8192 := by unfold clamp; omega
    obtain ⟨q1, q2⟩ := hcl
    generalize hcx : clamp p x = cx at *
    have HCX := Lib.hid hcx; clear hcx
    gi_wp2
    rw [show ((cx : Int) - (p : Int)) = ((cx - p : Nat) : Int) from by omega, show (cx : Int) + 1 = ((cx + 1 : Nat) : Int) from by omega]
    have n2 : ¬ rkept w.heap.size w1.heap.size (w.heap.size + 2) := by rintro (h | h | h | h) <;> omega
    have n3 : ¬ rkept w.heap.size w1.heap.size (w.heap.size + 3) := by rintro (h | h | h | h) <;> omega
    have n4 : ¬ rkept w.heap.size w1.heap.size (w.heap.size + 4) := by rintro (h | h | h | h) <;> omega
    have hfr2 := ((hfr.setCell (p := ⟨w.heap.size + 2, 0, none⟩) n2 (.int .u64 ((cx - p : Nat) : Int))).setCell (p := ⟨w.heap.size + 3, 0, none⟩) n3 (.int .i64 ((cx + 1 : Nat) : Int))).setCell (p := ⟨w.heap.size + 4, 0, none⟩) n4 (.int .i64 0)
    have g2 := (((h2.set (.int .u64 ((cx - p : Nat) : Int))).kept (grownBy_setCell' _ (w.heap.size + 3) (.int .i64 ((cx + 1 : Nat) : Int))) (by simp)).kept (grownBy_setCell' _ (w.heap.size + 4) (.int .i64 0)) (by simp))
    have g3 := (((h3.kept (grownBy_setCell' _ (w.heap.size + 2) (.int .u64 ((cx - p : Nat) : Int))) (by simp)).set (.int .i64 ((cx + 1 : Nat) : Int))).kept (grownBy_setCell' _ (w.heap.size + 4) (.int .i64 0)) (by simp))
    have g4 := (((h4.kept (grownBy_setCell' _ (w.heap.size + 2) (.int .u64 ((cx - p : Nat) : Int))) (by simp)).kept (grownBy_setCell' _ (w.heap.size + 3) (.int .i64 ((cx + 1 : Nat) : Int))) (by simp)).set (.int .i64 0))
    refine ⟨(((KeepsOthers.setCell _ _ _).trans (KeepsOthers.setCell _ _ _)).trans (KeepsOthers.setCell _ _ _)).from _, ⟨rfl, x, rfl, ?_, ?_, g4⟩, hfr2, by simpa [World.setCell] using hzz⟩
    · rw [HCX.out]; exact g2
    · rw [HCX.out]; exact g3
  case done =>
    rintro D ys X hD rfl ⟨⟨he, h2, h3, h4⟩, hfr, hzz⟩ hK
    obtain ⟨rfl, rfl, rfl⟩ : rn = 0 ∧ rt = 0 ∧ re = 7 := by
      rcases HP.out with ⟨_, h⟩ | ⟨x, xs, h, _⟩
      · exact h
      · rw [he] at h; cases h
    have c2 := h2.cell
    have c3 := h3.cell
    have c4 := h4.cell
    have f2 := h2.frozen
    have f3 := h3.frozen
    have f4 := h4.frozen
    have HL : Hid (Below w.heap.size w X) := hlow.trans (hfr.below (fun j hj => .inl (by omega)))
    clear he
    gi_wp2
    have hK' := (((KeepsOthers.setCell X ⟨w.heap.size + 2, 0, none⟩ (.int .u64 0)).trans (KeepsOthers.setCell _ ⟨w.heap.size + 3, 0, none⟩ (.int .i64 0))).trans (KeepsOthers.setCell _ ⟨w.heap.size + 4, 0, none⟩ (.int .i64 7))).same D _ hK rfl
    refine ⟨by simp, .inl ⟨_, _, rfl, run_takeDeferred hK', ?_⟩⟩
    have g2 := ((((h2.set (.int .u64 0)).kept (grownBy_setCell' _ (w.heap.size + 3) (.int .i64 0)) (by simp)).kept (grownBy_setCell' _ (w.heap.size + 4) (.int .i64 7)) (by simp)).kept (grownBy_putObj' _ D (.deferred none)) (by simp; omega)).cell
    have g3 := ((((h3.kept (grownBy_setCell' _ (w.heap.size + 2) (.int .u64 0)) (by simp)).set (.int .i64 0)).kept (grownBy_setCell' _ (w.heap.size + 4) (.int .i64 7)) (by simp)).kept (grownBy_putObj' _ D (.deferred none)) (by simp; omega)).cell
    have g4 := ((((h4.kept (grownBy_setCell' _ (w.heap.size + 2) (.int .u64 0)) (by simp)).kept (grownBy_setCell' _ (w.heap.size + 3) (.int .i64 0)) (by simp)).set (.int .i64 7)).kept (grownBy_putObj' _ D (.deferred none)) (by simp; omega)).cell
    refine ⟨.tuple #[.int .u64 0, .int .i64 0, .int .i64 7], ?_, rfl, (((HL.out.setCell (p := ⟨w.heap.size + 2, 0, none⟩) (by simp only; omega) _).setCell (p := ⟨w.heap.size + 3, 0, none⟩) (by simp only; omega) _).setCell (p := ⟨w.heap.size + 4, 0, none⟩) (by simp only; omega) _).trans (belowK_b (w := w) (Nat.le_refl _) _ D _ _ (by omega) hK' rfl rfl)⟩
    simp [results, Tryz.results228, go_sem, g2, g3, g4]
  case stop =>
    rintro D cd pre X hD hpre ⟨⟨rfl, x, rfl, h2, h3, h4⟩, hfr, hzz⟩ hK
    obtain ⟨rfl, rfl, rfl⟩ : rn = clamp p x - p ∧ rt = clamp p x + 1 ∧ re = 0 := by
      rcases HP.out with ⟨h, _⟩ | ⟨y, ys, h, h2, h3, h4⟩
      · rw [h] at hpre; simp at hpre
      · rw [h] at hpre
        obtain rfl : x = y := by simpa using hpre
        have hb := vis_bound true l p l.length x (by rw [h]; simp)
        rw [clamp_of p x hb.1 (by omega)]
        exact ⟨h2, h3, h4⟩
    have HL : Hid (Below w.heap.size w X) := hlow.trans (hfr.below (fun j hj => .inl (by omega)))
    gi_wp2
    refine ⟨by simp, .inl ⟨_, _, rfl, run_takeDeferred hK, ?_⟩⟩
    have g2 := (h2.kept (grownBy_putObj' _ D (.deferred none)) (by simp; omega)).cell
    have g3 := (h3.kept (grownBy_putObj' _ D (.deferred none)) (by simp; omega)).cell
    have g4 := (h4.kept (grownBy_putObj' _ D (.deferred none)) (by simp; omega)).cell
    refine ⟨.tuple #[.int .u64 ((clamp p x - p : Nat) : Int), .int .i64 ((clamp p x + 1 : Nat) : Int), .int .i64 0], ?_, rfl, HL.out.trans (belowK_b (w := w) (Nat.le_refl _) _ D _ _ (by omega) hK rfl rfl)⟩
    generalize clamp p x = cx at *
    simp [results, Tryz.results228, go_sem, g2, g3, g4]
end
section
open Go.RowKit Go.Shelf
attribute [local go_sem] Oper.semAt_some
theorem clamp0_le (x : Nat) : clamp 0 x ≤ 8191 := by unfold clamp; omega
theorem own_slice25 {w : World} {base : Nat} {v : Value} {n : Nat} {xs : List Value} (h : w.ownsRow base 58 1 v n xs) : ∃ A c, v = .slice A n c := by
  rcases h.2 with ⟨rfl, rfl⟩ | ⟨g, cap, cur, rfl, _⟩
  · exact ⟨none, 0, rfl⟩
  · exact ⟨_, cap, rfl⟩
theorem info25 : (Tryz.prog.info? 58).map (fun i => (i.zero, i.size, i.bytes)) = some (some (.int .u64 0), 1, 8) := by kernel_rfl
theorem own_rdv {w : World} {base : Nat} {e : TypeId} {A : Option Addr} {n c : Nat} {vs : List Value} (h : w.ownsRow base e 1 (.slice A n c) n vs) : RdV w w.heap.size A vs := by
  rcases h.2 with ⟨_, h0⟩ | ⟨g, cap, cur, he, _, hg, _⟩
  · have := h.1
    rw [h0] at this
    exact .inl (List.eq_nil_of_length_eq_zero (by omega))
  · simp only [Value.slice.injEq] at he
    obtain ⟨rfl, _, _⟩ := he
    refine .inr ⟨g, 0, rfl, (Array.getElem?_eq_some_iff.1 hg).1, fun i v hi => ?_⟩
    have hh := h.cells (g := g) rfl i v hi
    have ha : (⟨g, 0, none⟩ : Addr).add i = ⟨g, 0 + i, none⟩ := by unfold Addr.add; split <;> simp_all
    rw [ha] at hh
    exact hh
end
section
open Go.RowKit
theorem pos_zeros (n : Nat) : ∀ o, pos o (List.replicate n false) = [] := by
  induction n with
  | zero => intro o; rfl
  | succ n ih => intro o; rw [List.replicate_succ, pos]; exact ih _
theorem read_l (l : List Bool) (hl : l.length ≤ 8192) (A : Option Addr) (c p : Nat) (hp : p ≤ l.length) (x : Nat) (xs : List Nat) (hx : pos p (l.drop p) = x :: xs) (rn rt : Nat) (h1 : rn = x - p) (h2 : rt = x + 1) (w : World) (h : Rd w w.heap.size A (pack l)) :
    Calls Tryz.prog 228 #[.agg #[.int .i64 (l.length : Int), .slice A (pack l).length c], .int .i64 (p : Int)] w (ReadP w rn rt 0) :=
  read_in l hl A c p w h hp rn rt 0 (.inr ⟨x, xs, hx, h1, h2, rfl⟩)
theorem read_none (l : List Bool) (hl : l.length ≤ 8192) (A : Option Addr) (c p : Nat) (hp : p ≤ l.length) (hx : pos p (l.drop p) = []) (w : World) (h : Rd w w.heap.size A (pack l)) :
    Calls Tryz.prog 228 #[.agg #[.int .i64 (l.length : Int), .slice A (pack l).length c], .int .i64 (p : Int)] w (ReadP w 0 0 7) :=
  read_in l hl A c p w h hp 0 0 7 (.inl ⟨hx, rfl, rfl, rfl⟩)
end
section
set_option maxRecDepth 100000
set_option linter.unusedVariables false
def lg (n : Nat) : Nat := Nat.log2 (n + 1)
theorem lg_le (n : Nat) : 2 ^ lg n ≤ n + 1 := Nat.log2_self_le (by omega)
theorem lg_lt (n : Nat) : n + 1 < 2 ^ (lg n + 1) := Nat.lt_log2_self
theorem pow_inj_le {a b : Nat} (h : 2 ^ a < 2 ^ b) : a < b := (Nat.pow_lt_pow_iff_right (by omega)).1 h
theorem lg_lt_of (n k : Nat) (h : n + 1 < 2 ^ k) : lg n < k := pow_inj_le (Nat.lt_of_le_of_lt (lg_le n) h)
theorem nb_mod (k : Nat) : ∀ n, nb (n % 2 ^ k) k = nb n k := by
  intro n
  apply List.ext_getElem
  · simp [nb_length]
  · intro i h1 h2
    rw [nb_length] at h1
    simp only [nb, List.getElem_map, List.getElem_range]
    congr 1
    have e : 2 ^ k = 2 ^ (k - 1 - i) * 2 ^ (i + 1) := by rw [← Nat.pow_add]; congr 1; omega
    rw [e, Nat.mod_mul_right_div_self, Nat.pow_succ, Nat.mul_comm (2 ^ i) 2, Nat.mod_mul_right_mod]
theorem nb_sub (m k : Nat) (h1 : 2 ^ k ≤ m) (h2 : m < 2 ^ (k + 1)) : nb (m - 2 ^ k) k = nb m k := by
  rw [← nb_mod k m, Nat.mod_eq_sub_mod h1, Nat.mod_eq_of_lt (by rw [Nat.pow_succ] at h2; omega)]
theorem fold_num (l : List Bool) : ∀ a, l.foldl (fun n b => 2 * n + b.toNat) a = a * 2 ^ l.length + num l := by
  induction l with
  | nil => intro a; simp [num]
  | cons b l ih =>
    intro a
    rw [List.foldl_cons, ih, List.length_cons, Nat.pow_succ]
    have e : num (b :: l) = l.foldl (fun n b => 2 * n + b.toNat) (2 * 0 + b.toNat) := rfl
    rw [e, ih, Nat.add_mul, Nat.add_assoc, Nat.mul_comm (2 ^ l.length) 2, ← Nat.mul_assoc, Nat.mul_comm a 2]
    simp
theorem num_append (a b : List Bool) : num (a ++ b) = num a * 2 ^ b.length + num b := by
  unfold num
  rw [List.foldl_append, fold_num]; rfl
def gam (n : Nat) : List Bool := uc (lg n) ++ nb (n + 1) (lg n)
theorem gam_length (n : Nat) : (gam n).length = 2 * lg n + 1 := by simp [gam, uc_length, nb_length]; omega
def uR (l : List Bool) (s : Nat) : Nat × Nat × Int := match pos s (l.drop s) with | [] => (0, 0, 7) | x :: _ => (x - s, x + 1, 0)
def restR (l : List Bool) (s k : Nat) : Nat × Nat × Int :=
  if 63 < k then (0, 0, 3) else if l.length < s + k then (0, 0, 7) else if 1099511627776 < 2 ^ k + num ((l.drop s).take k) - 1 then (0, 0, 3) else (2 ^ k + num ((l.drop s).take k) - 1, s + k, 0)
def thenR (l : List Bool) (r : Nat × Nat × Int) : Nat × Nat × Int := if r.2.2 = 0 then restR l r.2.1 r.1 else (0, 0, r.2.2)
def gamR (l : List Bool) (s : Nat) : Nat × Nat × Int := thenR l (uR l s)
theorem pos_ge (l : List Bool) : ∀ o, ∀ x ∈ pos o l, o ≤ x ∧ x < o + l.length := by
  induction l with
  | nil => intro o x h; simp [pos] at h
  | cons b l ih =>
    intro o x h
    cases b
    · simp only [pos] at h
      have := ih _ x h
      rw [List.length_cons]; omega
    · simp only [pos, List.mem_cons] at h
      rcases h with rfl | h
      · rw [List.length_cons]; omega
      · have := ih _ x h
        rw [List.length_cons]; omega
theorem uR_bound (l : List Bool) (s : Nat) (hs : s ≤ l.length) : (uR l s).1 ≤ l.length ∧ (uR l s).2.1 ≤ l.length ∧ ((uR l s).2.2 = 0 ∨ (uR l s).2.2 = 7) := by
  unfold uR
  split
  · simp
  · rename_i x xs e
    have := pos_ge (l.drop s) s x (by rw [e]; simp)
    rw [List.length_drop] at this
    exact ⟨by simp only; omega, by simp only; omega, .inl rfl⟩
theorem restR_bound (l : List Bool) (s k : Nat) : (restR l s k).2.1 ≤ l.length ∧ (restR l s k).1 ≤ 1099511627776 ∧ ((restR l s k).2.2 = 0 ∨ (restR l s k).2.2 = 3 ∨ (restR l s k).2.2 = 7) := by
  unfold restR
  split
  · simp
  · split
    · simp
    · split
      · simp
      · exact ⟨by simp only; omega, by simp only; omega, .inl rfl⟩
theorem thenR_bound (l : List Bool) (r : Nat × Nat × Int) : (thenR l r).2.1 ≤ l.length ∧ (thenR l r).1 ≤ 1099511627776 := by
  unfold thenR
  split
  · exact ⟨(restR_bound l _ _).1, (restR_bound l _ _).2.1⟩
  · simp
theorem uR_uc (p t : List Bool) (n : Nat) : uR (p ++ (uc n ++ t)) p.length = (n, p.length + n + 1, 0) := by
  unfold uR
  rw [List.drop_left]
  unfold uc
  rw [pos_append, pos_append, pos_zeros, List.length_replicate]
  simp [pos]
theorem restR_nb (p t : List Bool) (n : Nat) (hn : n ≤ 1099511627776) : restR (p ++ (nb (n + 1) (lg n) ++ t)) p.length (lg n) = (n, p.length + lg n, 0) := by
  have h40 := lg_lt_of n 41 (by omega)
  have e : ((p ++ (nb (n + 1) (lg n) ++ t)).drop p.length).take (lg n) = nb (n + 1) (lg n) := by
    rw [List.drop_left]
    have := List.take_left (l₁ := nb (n + 1) (lg n)) (l₂ := t)
    rwa [nb_length] at this
  unfold restR
  have h1 := lg_le n
  have h2 := lg_lt n
  rw [e, ← nb_sub (n + 1) (lg n) h1 h2, num_nb_small _ _ (Nat.div_eq_of_lt (by rw [Nat.pow_succ] at h2; omega))]
  rw [if_neg (by omega), if_neg (by rw [List.length_append, List.length_append, nb_length]; omega), if_neg (by omega)]
  congr 1
  omega
theorem gamR_gam (p t : List Bool) (n : Nat) (hn : n ≤ 1099511627776) : gamR (p ++ (gam n ++ t)) p.length = (n, p.length + (gam n).length, 0) := by
  unfold gamR gam thenR
  rw [List.append_assoc, uR_uc, if_pos rfl]
  have := restR_nb (p ++ uc (lg n)) t n hn
  rw [List.length_append, uc_length, List.append_assoc] at this
  rw [Nat.add_assoc] at this ⊢
  rw [this, List.length_append, uc_length, nb_length]
end
end
section
set_option maxRecDepth 100000
set_option linter.unusedVariables false
open Go.RowKit
def GaveF (w : World) (l : List Bool) (e : Ending) (w' : World) : Prop :=
  ∃ A c, e = .returned (.tuple #[.agg #[.int .i64 (l.length : Int), .slice A (pack l).length c], .int .i64 0]) ∧ Rd w' w'.heap.size A (pack l) ∧ Below w.heap.size w w' ∧ ∀ g, (Value.slice A (pack l).length c).ownBlock = some g → w.heap.size ≤ g
theorem finishF {w wr : World} {S : Nat → Prop} {W r : Nat} {L : List Bool} {a b : Value} (hw : Wr wr S W L) (hS : ∀ k, k < w.heap.size → S k) (hr : w.heap.size ≤ r) (hSr : S r) (hrb : wr.heap[r]? = some (.cells #[a, b] 27 (0, 0))) (hb : Below w.heap.size w wr) :
    ∃ A c, (wr.cell? ⟨W, 0, none⟩ = some (.int .i64 (L.length : Int)) ∧ wr.cell? ⟨W, 1, none⟩ = some (.slice A (pack L).length c)) ∧
      (wr.cell? ⟨r, 0, none⟩ = some a ∧ wr.cell? ⟨r, 1, none⟩ = some b ∧ wr.frozen? ⟨r, 0, none⟩ = false ∧ wr.frozen? ⟨r, 1, none⟩ = false) ∧
      Hid (GaveF w L (.returned (.tuple #[.agg #[.int .i64 (L.length : Int), .slice A (pack L).length c], .int .i64 0])) ((wr.setCell ⟨r, 0, none⟩ (.int .i64 (L.length : Int))).setCell ⟨r, 1, none⟩ (.slice A (pack L).length c))) := by
  have hw' := hw
  obtain ⟨v, hW, ho, _, hg⟩ := hw
  obtain ⟨A0, c0, rfl⟩ := own_slice ho
  obtain ⟨A, c, h1, h2, h3⟩ := finish hw' hr hSr hrb hb
  have e1 := (blk_cells hW).2.1
  have e2 := h1.2
  rw [e1] at e2
  simp only [Option.some.injEq, Value.slice.injEq] at e2
  obtain ⟨rfl, _, rfl⟩ := e2
  obtain ⟨A', c', g1, g2, g3⟩ := h3.out
  simp only [Ending.returned.injEq, Value.tuple.injEq] at g1
  refine ⟨A0, c0, h1, h2, A0, c0, rfl, ?_, g3, fun g hgg => ?_⟩
  · have : A' = A0 := by simp at g1; exact g1.1.symm
    rw [this] at g2
    exact g2
  · rcases Nat.lt_or_ge g w.heap.size with hlt | hge
    · exact absurd (hS g hlt) (hg g hgg)
    · exact hge
set_option maxHeartbeats 1000000 in
theorem join_f (a b L : List Bool) (ha : a.length ≤ 8192) (hb : b.length ≤ 8192) (A B : Option Addr) (c d : Nat) (w : World) (hA : Rd w w.heap.size A (pack a)) (hB : Rd w w.heap.size B (pack b)) (hL : L = a ++ b) (hf' : a.length + b.length ≤ 8192) :
    Calls Tryz.prog 23 #[.agg #[.int .i64 (a.length : Int), .slice A (pack a).length c], .agg #[.int .i64 (b.length : Int), .slice B (pack b).length d]] w (GaveF w L) := by
  have hX := check_later (a.length : Int) A c (pack a) w (pack_lt a) hA (begun3 w (.int .i64 (a.length : Int)) (.int .i64 (b.length : Int)) (.slice A (pack a).length c) (.slice B (pack b).length d)) (begun3_below _ _ _ _ _)
  rw [chk_pack a ha, begun3_size] at hX
  have HX := Lib.hid hX; clear hX
  have hY := check_later (b.length : Int) B d (pack b) w (pack_lt b) hB
  rw [chk_pack b hb] at hY
  have HY := Lib.hid hY; clear hY
  have HBz := Lib.hid (begun3_below w (.int .i64 (a.length : Int)) (.int .i64 (b.length : Int)) (.slice A (pack a).length c) (.slice B (pack b).length d))
  have HCP : Hid (∀ w2, Below w.heap.size w w2 → Calls Tryz.prog 67 #[.agg #[.int .i64 (a.length : Int), .slice A (pack a).length c]] w2 (Copied w2 (a.length : Int) (pack a).length (pack a))) := fun w2 hq =>
    copy_any _ w2 A c (pack a) (by rw [pack_length]; omega) (hA.below hq hq.size)
  have HL := Lib.hid hL; clear hL
  have HBR := Lib.hid hB; clear hB hA
  go_enter Tryz.func23, Tryz.ntmps23
  go_wp2_with fail
  refine HX.out.mono ?_
  rintro e w1 ⟨rfl, hq⟩
  unfold begun3 at hq
  obtain ⟨hc1, hf1⟩ := old_cells hq
  have HS : Hid (w.heap.size + 3 ≤ w1.heap.size) := by have := hq.size; rw [show (((w.alloc _).alloc _).alloc _).heap.size = w.heap.size + 3 from begun3_size w _ _ _ _] at this; exact this
  go_wp2_with fail
  refine (HY.out w1 (HBz.out.trans (hq.mono (by omega)))).mono ?_
  rintro e w2 ⟨rfl, hq2⟩
  have hq3 := hq.trans (hq2.mono HS.out)
  have HS2 : Hid (w.heap.size + 3 ≤ w2.heap.size) := by have h1 := HS.out; have h2 := hq2.size; show _ ≤ _; omega
  clear hc1 hf1 hq hq2
  obtain ⟨hc1, hf1⟩ := old_cells hq3
  go_wp2_with fail
  refine (HCP.out w2 (HBz.out.trans (hq3.mono (by omega)))).mono ?_
  rintro e w3 ⟨A2, c2, rfl, ho3, hb3⟩
  have hq4 := hq3.trans (hb3.mono HS2.out)
  have HS3 : Hid (w.heap.size + 3 ≤ w3.heap.size) := by have h1 := HS2.out; have h2 := hb3.size; show _ ≤ _; omega
  have HW : Hid (Wr (w3.alloc (.cells #[.int .i64 (a.length : Int), .slice A2 (pack a).length c2] 106)) (fun k => k < w.heap.size + 3) w3.heap.size a) := Wr.laid ho3 (fun j hj => by have := HS2.out; omega) hb3.size
  have HR : Hid (Rd (w3.alloc (.cells #[.int .i64 (a.length : Int), .slice A2 (pack a).length c2] 106)) w.heap.size B (pack b)) := HBR.out.below ((HBz.out.trans (hq4.mono (by omega))).alloc (by have := HS3.out; omega) _) (Nat.le_refl _)
  clear hc1 hf1 ho3 hb3
  obtain ⟨hc1, hf1⟩ := old_cells hq4
  have hs1 : w.heap.size + 1 < w3.heap.size := by have := HS3.out; omega
  go_wp2_with fail
  have hz0 : ((0 : Nat) : Int) = 0 := rfl
  rw [← hz0]
  refine (addBits_any _ (fun k => k < w.heap.size + 3) (fun j hj => by have := HS3.out; simp only [World.size_alloc]; omega) w3.heap.size a b hb B d w.heap.size (fun k hk => by omega) (by have := HS3.out; simp only [World.size_alloc]; omega) 0 b.length (by omega) (Nat.le_refl _) (by omega) HW.out HR.out).mono ?_
  rintro e w4 ⟨rfl, hw4, hf4⟩
  rw [List.drop_zero, Nat.sub_zero, List.take_length, ← HL.out] at hw4
  have hwb : w4.heap[w.heap.size + 1 + 1]? = some (.cells #[.int .i64 0, .slice none 0 0] 27 (0, 0)) := by
    rw [hf4.block _ (by omega), Below.heap_alloc _ _ _ (by have := HS3.out; omega), hq4.block _ (by omega)]
    exact begun3_res w _ _ _ _
  have hlow : Below w.heap.size w w4 := ((HBz.out.trans (hq4.mono (by omega))).alloc (by have := HS3.out; omega) _).trans (hf4.below (fun j hj => by omega))
  obtain ⟨A3, c3, ⟨d0, d1⟩, ⟨d2, d3, g0, g1⟩, HG⟩ := finishF hw4 (fun k hk => by omega) (r := w.heap.size + 1 + 1) (by omega) (by omega) hwb hlow
  clear hwb hlow hw4 hf4 hc1 hf1 hz0
  go_wp2
  exact bodyPost_ret (v := .tuple #[.agg #[.int .i64 (L.length : Int), .slice A3 (pack L).length c3], .int .i64 0]) (by simp [results, Tryz.results23, go_sem, d2, d3]) rfl HG.out
end
section
set_option linter.unusedVariables false
def cnt (l : List Bool) : Nat := l.count true
theorem cnt_append (a b : List Bool) : cnt (a ++ b) = cnt a + cnt b := by simp [cnt]
theorem cnt_le (l : List Bool) : cnt l ≤ l.length := List.count_le_length
theorem cnt_cons (b : Bool) (l : List Bool) : cnt (b :: l) = cnt l + b.toNat := by cases b <;> simp [cnt]
theorem pos_len (l : List Bool) : ∀ o, (pos o l).length = cnt l := by
  induction l with
  | nil => intro o; rfl
  | cons b l ih => intro o; rw [cnt_cons]; cases b <;> simp [pos, ih]
theorem cnt_take_le (l : List Bool) (i : Nat) : cnt (l.take i) ≤ i := Nat.le_trans (cnt_le _) (by rw [List.length_take]; omega)
theorem cnt_between (l : List Bool) (fr to : Nat) (h : fr ≤ to) : cnt ((l.drop fr).take (to - fr)) = cnt (l.take to) - cnt (l.take fr) := by
  have e : l.take to = l.take fr ++ (l.drop fr).take (to - fr) := by
    rw [← List.take_append_drop fr (l.take to), List.take_take, Nat.min_eq_left h, List.drop_take]
  rw [e, cnt_append]; omega
theorem vis_count (l : List Bool) (fr to : Nat) (h : fr ≤ to) : (vis true l fr to).length = cnt (l.take to) - cnt (l.take fr) := by
  unfold vis
  rw [pos_len, eqs_true, cnt_between l fr to h]
theorem pos_inv (l : List Bool) : ∀ o i q, (pos o l)[i]? = some q → ∃ p, q = o + p ∧ l[p]? = some true ∧ cnt (l.take p) = i := by
  induction l with
  | nil => intro o i q h; simp [pos] at h
  | cons b l ih =>
    intro o i q h
    cases b
    · obtain ⟨p, rfl, h1, h2⟩ := ih (o + 1) i q h
      exact ⟨p + 1, by omega, by simpa using h1, by rw [List.take_succ_cons, cnt_cons, h2]; rfl⟩
    · cases i with
      | zero => simp [pos] at h; exact ⟨0, by omega, by simp, by simp [cnt]⟩
      | succ i =>
        obtain ⟨p, rfl, h1, h2⟩ := ih (o + 1) i q (by simpa [pos] using h)
        exact ⟨p + 1, by omega, by simpa using h1, by rw [List.take_succ_cons, cnt_cons, h2]; rfl⟩
def bx (l : List Bool) (e : Nat) : List Nat := (List.range (l.length / e + 1)).map fun j => cnt (l.take (j * e))
end
section
set_option linter.unusedVariables false
def fnw (n t : Nat) : Nat := Nat.log2 ((t + 1) / n)
theorem fw_zero (t : Nat) : fnw 0 t = 0 := by unfold fnw; rw [Nat.div_zero]; rfl
theorem fnw_le (n t k : Nat) (hn : 1 ≤ n) (h : n * 2 ^ k ≤ t + 1) : k ≤ fnw n t := by
  unfold fnw
  have h1 : 2 ^ k ≤ (t + 1) / n := (Nat.le_div_iff_mul_le hn).2 (by rw [Nat.mul_comm]; exact h)
  have h0 : (t + 1) / n ≠ 0 := by have := Nat.two_pow_pos k; omega
  exact (Nat.le_log2 h0).2 h1
theorem fw_of (n t k : Nat) (hk : 1 ≤ k) (h : k ≤ fnw n t) : n * 2 ^ k ≤ t + 1 := by
  unfold fnw at h
  have h0 : (t + 1) / n ≠ 0 := by intro e; rw [e] at h; simp at h; omega
  have hn : 1 ≤ n := by
    rcases Nat.eq_zero_or_pos n with rfl | hn
    · rw [Nat.div_zero] at h0; exact absurd rfl h0
    · exact hn
  have := (Nat.le_div_iff_mul_le hn).1 ((Nat.le_log2 h0).1 h)
  rw [Nat.mul_comm]; exact this
theorem fw_more (n t k : Nat) (hn : 1 ≤ n) : n * 2 ^ (k + 1) ≤ t + 1 ↔ k < fnw n t :=
  ⟨fun h => fnw_le n t (k + 1) hn h, fun h => fw_of n t (k + 1) (by omega) h⟩
theorem fw_end (n t : Nat) (hn : 1 ≤ n) : t + 1 < n * 2 ^ (fnw n t + 1) := by
  have := fw_more n t (fnw n t) hn
  omega
theorem fw_bound (n t : Nat) (h : t ≤ 1048576) : fnw n t ≤ 20 := by
  rcases Nat.lt_or_ge (fnw n t) 21 with h1 | h1
  · omega
  · have := fw_of n t 21 (by omega) h1
    have h0 : n ≠ 0 := by rintro rfl; rw [fw_zero] at h1; omega
    have : 1 * 2 ^ 21 ≤ n * 2 ^ 21 := Nat.mul_le_mul_right _ (by omega)
    omega
theorem fw_high (n t : Nat) (hn : 1 ≤ n) : t / 2 ^ fnw n t + 1 ≤ 2 * n := by
  have h := fw_end n t hn
  rw [Nat.pow_succ, ← Nat.mul_assoc, Nat.mul_comm (n * 2 ^ fnw n t) 2, ← Nat.mul_assoc] at h
  have := (Nat.div_lt_iff_lt_mul (Nat.two_pow_pos (fnw n t))).2 (show t < 2 * n * 2 ^ fnw n t by omega)
  omega
def hiP : Nat → List Nat → Nat → List Bool
  | p, [], H => List.replicate (H + 1 - p) false
  | p, h :: t, H => List.replicate (h - p) false ++ true :: hiP h t H
def hd : Nat → List Bool → List Nat
  | _, [] => []
  | h, true :: l => h :: hd h l
  | h, false :: l => hd (h + 1) l
def Up : Nat → List Nat → Prop
  | _, [] => True
  | p, h :: t => p ≤ h ∧ Up h t
theorem hd_zeros (k : Nat) : ∀ h l, hd h (List.replicate k false ++ l) = hd (h + k) l := by
  induction k with
  | zero => intro h l; rfl
  | succ k ih => intro h l; rw [List.replicate_succ, List.cons_append, hd, ih]; congr 1; omega
theorem hiP_len (H : Nat) : ∀ (l : List Nat) (p : Nat), Up p l → (∀ x ∈ l, x ≤ H) → p ≤ H + 1 → (hiP p l H).length = l.length + (H + 1 - p)
  | [], p, _, _, _ => by simp [hiP]
  | h :: t, p, hu, hh, hp => by
    obtain ⟨h1, h2⟩ := hu
    have h3 := hh h (by simp)
    have := hiP_len H t h h2 (fun x hx => hh x (by simp [hx])) (by omega)
    simp [hiP, this]; omega
theorem hiP_cnt (H : Nat) : ∀ (l : List Nat) (p : Nat), cnt (hiP p l H) = l.length
  | [], p => by simp [hiP, cnt, List.count_replicate]
  | h :: t, p => by
    rw [hiP, cnt_append, cnt_cons, hiP_cnt H t h]
    simp [cnt, List.count_replicate]
theorem hd_zeros_nil (k h : Nat) : hd h (List.replicate k false) = [] := by
  have := hd_zeros k h []
  rw [List.append_nil] at this
  rw [this]; rfl
theorem hd_hiP (H : Nat) : ∀ (l : List Nat) (p : Nat), Up p l → hd p (hiP p l H) = l
  | [], p, _ => by rw [hiP, hd_zeros_nil]
  | h :: t, p, hu => by
    obtain ⟨h1, h2⟩ := hu
    rw [hiP, hd_zeros, show p + (h - p) = h by omega, hd, hd_hiP H t h h2]
theorem hd_pos (l : List Bool) : ∀ (o h i : Nat), (hd h l)[i]? = ((pos o l)[i]?).map fun q => h + (q - o - i) := by
  induction l with
  | nil => intro o h i; simp [hd, pos]
  | cons b l ih =>
    intro o h i
    cases b
    · simp only [hd, pos]
      rw [ih (o + 1) (h + 1) i]
      cases e : (pos (o + 1) l)[i]? with
      | none => rfl
      | some q =>
        obtain ⟨p, rfl, _, hc⟩ := pos_inv l (o + 1) i q e
        have := cnt_take_le l p
        simp only [Option.map_some]; congr 1; omega
    · cases i with
      | zero => simp [hd, pos]
      | succ i =>
        simp only [hd, pos, List.getElem?_cons_succ]
        rw [ih (o + 1) h i]
        cases (pos (o + 1) l)[i]? with
        | none => rfl
        | some q => simp only [Option.map_some]; congr 1; omega
def loP (w : Nat) (l : List Nat) : List Bool := l.flatMap fun x => nb (x % 2 ^ w) w
theorem loP_len (w : Nat) (l : List Nat) : (loP w l).length = l.length * w := by
  induction l with
  | nil => simp [loP]
  | cons x t ih => rw [show loP w (x :: t) = nb (x % 2 ^ w) w ++ loP w t from rfl, List.length_append, nb_length, ih, List.length_cons, Nat.succ_mul]; omega
def lo (w : Nat) (l : List Bool) (i : Nat) : Nat := num ((l.drop (i * w)).take w)
theorem lo_loP (w : Nat) : ∀ (l : List Nat) (i : Nat), i < l.length → lo w (loP w l) i = (l[i]?.getD 0) % 2 ^ w
  | x :: t, 0, _ => by
    unfold lo
    rw [show loP w (x :: t) = nb (x % 2 ^ w) w ++ loP w t from rfl, Nat.zero_mul, List.drop_zero, List.take_left' (nb_length _ _), num_nb, Nat.mod_mod]; rfl
  | x :: t, i + 1, h => by
    have ih := lo_loP w t i (by simpa using h)
    unfold lo at ih ⊢
    have e : (loP w (x :: t)).drop ((i + 1) * w) = (loP w t).drop (i * w) := by
      rw [show loP w (x :: t) = nb (x % 2 ^ w) w ++ loP w t from rfl, Nat.succ_mul, Nat.add_comm (i * w) w, ← List.drop_drop, List.drop_left' (nb_length _ _)]
    rw [e, ih]; simp
theorem lo_lt (w : Nat) (L : List Bool) (i : Nat) : lo w L i < 2 ^ w := by
  unfold lo
  refine Nat.lt_of_lt_of_le (num_lt _) (Nat.pow_le_pow_right (by omega) ?_)
  rw [List.length_take]; omega
def fhi (w : Nat) (l : List Nat) (t : Nat) : List Bool := hiP 0 (l.map (· / 2 ^ w)) (t / 2 ^ w)
def fdec (w : Nat) (L H : List Bool) : List Nat := (hd 0 H).mapIdx fun i h => h * 2 ^ w + lo w L i
theorem fdec_get (w : Nat) (L H : List Bool) (i : Nat) : (fdec w L H)[i]? = ((hd 0 H)[i]?).map fun h => h * 2 ^ w + lo w L i := by
  unfold fdec; rw [List.getElem?_mapIdx]
theorem fdec_pos (w : Nat) (L H : List Bool) (i : Nat) : (fdec w L H)[i]? = ((pos 0 H)[i]?).map fun q => (q - i) * 2 ^ w + lo w L i := by
  rw [fdec_get, hd_pos H 0 0 i]
  cases (pos 0 H)[i]? with
  | none => rfl
  | some q => simp
theorem up_map (w : Nat) : ∀ (l : List Nat) (p : Nat), Up p l → Up (p / 2 ^ w) (l.map (· / 2 ^ w))
  | [], _, _ => trivial
  | x :: t, _, h => ⟨Nat.div_le_div_right h.1, up_map w t x h.2⟩
theorem fdec_write (w : Nat) (l : List Nat) (t : Nat) (hu : Up 0 l) : fdec w (loP w l) (fhi w l t) = l := by
  have hh : hd 0 (fhi w l t) = l.map (· / 2 ^ w) := hd_hiP _ _ 0 (by have := up_map w l 0 hu; rwa [Nat.zero_div] at this)
  apply List.ext_getElem?
  intro i
  rw [fdec_get, hh, List.getElem?_map]
  by_cases hi : i < l.length
  · rw [List.getElem?_eq_getElem hi]
    simp only [Option.map_some]
    rw [lo_loP w l i hi, List.getElem?_eq_getElem hi]
    simp only [Option.getD_some]
    rw [Nat.mul_comm, Nat.div_add_mod]
  · rw [List.getElem?_eq_none (by omega)]; rfl
theorem fhi_len (w : Nat) (l : List Nat) (t : Nat) (hu : Up 0 l) (ht : ∀ x ∈ l, x ≤ t) : (fhi w l t).length = l.length + (t / 2 ^ w + 1) := by
  unfold fhi
  rw [hiP_len _ _ 0 (by have := up_map w l 0 hu; rwa [Nat.zero_div] at this) (fun x hx => by
    simp only [List.mem_map] at hx
    obtain ⟨y, hy, rfl⟩ := hx
    exact Nat.div_le_div_right (ht y hy)) (Nat.zero_le _), List.length_map]
  rfl
theorem fhi_cnt (w : Nat) (l : List Nat) (t : Nat) : cnt (fhi w l t) = l.length := by unfold fhi; rw [hiP_cnt, List.length_map]
end
section
set_option maxRecDepth 100000
set_option linter.unusedVariables false
open Go.RowKit
def YW (w : World) (K : Nat) (l : List Bool) : Prop :=
  ∃ A c, w.heap[K]? = some (.cells #[.int .i64 (l.length : Int), .slice A (pack l).length c] 252 (0, 0)) ∧ Rd w w.heap.size A (pack l)
theorem YW.put {w w' : World} {K : Nat} {l L : List Bool} {A A' : Option Addr} {c c' : Nat} (hK : w.heap[K]? = some (.cells #[.int .i64 (l.length : Int), .slice A (pack l).length c] 252 (0, 0))) (hR : Rd w' w'.heap.size A' (pack L)) (hB : Below w.heap.size w w') :
    (w'.cell? ⟨K, 0, none⟩ = some (.int .i64 (l.length : Int)) ∧ w'.cell? ⟨K, 1, none⟩ = some (.slice A (pack l).length c) ∧ w'.frozen? ⟨K, 0, none⟩ = false ∧ w'.frozen? ⟨K, 1, none⟩ = false) ∧
    Hid (YW ((w'.setCell ⟨K, 0, none⟩ (.int .i64 (L.length : Int))).setCell ⟨K, 1, none⟩ (.slice A' (pack L).length c')) K L ∧ w.grownBy ((w'.setCell ⟨K, 0, none⟩ (.int .i64 (L.length : Int))).setCell ⟨K, 1, none⟩ (.slice A' (pack L).length c')) (some K)) := by
  have hlt : K < w.heap.size := (Array.getElem?_eq_some_iff.1 hK).1
  have hK1 := (hB.block K hlt).trans hK
  have hK2 := heap_set_same w' K 0 (.int .i64 (L.length : Int)) 252 _ hK1
  have hK3 := heap_set_same _ K 1 (.slice A' (pack L).length c') 252 _ hK2
  refine ⟨blk_cells hK1, ⟨A', c', ?_, ?_⟩, grown_trans (grown_of_below hB _) (grown_trans (grown_set _ _ _ _) (grown_set _ _ _ _))⟩
  · rw [hK3]; simp
  · have r1 := hR.setK (i := 0) (.int .i64 (L.length : Int)) hK1
    have hK2' : (w'.setCell ⟨K, 0, none⟩ (.int .i64 (L.length : Int))).heap[K]? = some (.cells #[.int .i64 (L.length : Int), .slice A (pack l).length c] 252 (0, 0)) := by rw [hK2]; simp
    have r2 := r1.setK (i := 1) (.slice A' (pack L).length c') hK2'
    have e : ((w'.setCell ⟨K, 0, none⟩ (.int .i64 (L.length : Int))).setCell ⟨K, 1, none⟩ (.slice A' (pack L).length c')).heap.size = w'.heap.size := by simp [World.setCell]
    rw [e]
    exact r2
set_option maxHeartbeats 400000 in
theorem yput_ok (w : World) (K : Nat) (l L : List Bool) (n k : Nat) (hk : k ≤ 64) (hn : n / 2 ^ k = 0) (hf : l.length + k ≤ 8192) (hn64 : n < 18446744073709551616) (hL : L = l ++ nb n k) (h : YW w K l) :
    Calls Tryz.prog 201 #[.pointer (some ⟨K, 0, none⟩), .int .u64 (n : Int), .int .i64 (k : Int)] w fun e w' => e = .returned (.tuple #[]) ∧ YW w' K L ∧ w.grownBy w' (some K) := by
  obtain ⟨A, c, hK, hR⟩ := h
  have HP := Lib.hid (put_l l L A c n k hk hn hf hn64 hL w hR)
  obtain ⟨c0, c1, f0, f1⟩ := blk_cells hK
  have HK := Lib.hid hK
  clear hK hR hn hL
  go_enter Tryz.func201, Tryz.ntmps201
  go_wp2_with fail
  refine HP.out.mono ?_
  rintro e w1 ⟨A1, c1', rfl, R1, B1⟩
  obtain ⟨⟨d0, d1, e0, e1⟩, HU⟩ := YW.put (c' := c1') HK.out R1 B1
  clear R1 B1 c0 c1 f0 f1
  go_wp2
  go_end0
  exact ⟨rfl, HU.out.1, HU.out.2⟩
def wlen (w : World) (K : Nat) : Nat := match w.cell? ⟨K, 0, none⟩ with | some (.int _ n) => n.toNat | _ => 0
theorem wlen_of {w : World} {K : Nat} {l : List Bool} (h : YW w K l) : wlen w K = l.length := by
  obtain ⟨A, c, hK, _⟩ := h
  unfold wlen
  rw [(blk_cells hK).1]; rfl
def upto (l : List Bool) (to : Nat) : List Bool := l ++ List.replicate (to - l.length) false
theorem upto_more (l : List Bool) (to k : Nat) (h : l.length + k ≤ to) : upto (l ++ List.replicate k false) to = upto l to := by
  unfold upto
  rw [List.length_append, List.length_replicate, List.append_assoc, List.replicate_append_replicate]
  congr 2; omega
theorem upto_end (l : List Bool) (to : Nat) (h : to ≤ l.length) : upto l to = l := by
  unfold upto; rw [show to - l.length = 0 by omega]; simp
def FillRel (w : World) (K : Nat) (l : List Bool) (to : Nat) (wr : World) : Prop :=
  ∃ m : List Bool, upto m to = upto l to ∧ YW wr K m ∧ w.grownBy wr (some K)
set_option maxHeartbeats 1000000 in
theorem yfill_ok (w : World) (K : Nat) (l L : List Bool) (to : Nat) (hto : to ≤ 8192) (hL : L = upto l to) (h : YW w K l) :
    Calls Tryz.prog 202 #[.pointer (some ⟨K, 0, none⟩), .int .i64 (to : Int)] w fun e w' => e = .returned (.tuple #[]) ∧ YW w' K L ∧ w.grownBy w' (some K) := by
  have HU := Lib.hid h; clear h
  have HL := Lib.hid hL; clear hL
  go_enter Tryz.func202, Tryz.ntmps202
  go_wp2_with fail
  go_loopw [] (fun wr => FillRel w K l to wr) (fun wr => to - wlen wr K)
  case atStart => exact ⟨l, rfl, HU.out, ⟨rfl, rfl, rfl, Nat.le_refl _, fun _ _ _ => rfl⟩⟩
  case round =>
    obtain ⟨m, hm, hu, hg⟩ := hrel
    have hwl := wlen_of hu
    have HU2 := Lib.hid hu
    obtain ⟨A, c, hK, hR⟩ := hu
    obtain ⟨c0, c1, f0, f1⟩ := blk_cells hK
    clear hK hR
    have HM := Lib.hid hm; clear hm
    by_cases hlt : m.length < to
    · have HP : Hid (∀ k, k ≤ 64 → m.length + k ≤ to → Calls Tryz.prog 201 #[.pointer (some ⟨K, 0, none⟩), .int .u64 0, .int .i64 (k : Int)] wr fun e w' => e = .returned (.tuple #[]) ∧ YW w' K (m ++ List.replicate k false) ∧ wr.grownBy w' (some K)) := fun k h1 h2 =>
        yput_ok wr K m (m ++ List.replicate k false) 0 k h1 (by simp) (by omega) (by omega) (by rw [nb_zeros]) HU2.out
      have HN : Hid (∀ k, m.length + k ≤ to → upto (m ++ List.replicate k false) to = upto l to) := fun k h => (upto_more m to k h).trans HM.out
      have HZ : Hid (∀ k, (m ++ List.replicate k false).length = m.length + k) := fun k => by simp
      clear c1 f0 f1
      go_wp2_with fail
      · have h1 : m.length + 64 ≤ to := by omega
        refine (HP.out 64 (by omega) h1).mono ?_
        rintro e w1 ⟨rfl, hu1, hg1⟩
        have hw1 := wlen_of hu1
        rw [HZ.out] at hw1
        go_wp2
        go_roundw
        case rel => exact ⟨_, HN.out 64 h1, hu1, grown_trans hg hg1⟩
        case measure => omega
      · have h0 : (to : Int) - (m.length : Int) = ((to - m.length : Nat) : Int) := by omega
        rw [h0]
        refine (HP.out (to - m.length) (by omega) (by omega)).mono ?_
        rintro e w1 ⟨rfl, hu1, hg1⟩
        have hw1 := wlen_of hu1
        rw [HZ.out] at hw1
        go_wp2
        go_roundw
        case rel => exact ⟨_, HN.out (to - m.length) (by omega), hu1, grown_trans hg hg1⟩
        case measure => omega
    · have HE : Hid (L = m) := by
        show _ = _
        rw [HL.out, ← HM.out, upto_end m to (by omega)]
      go_wp2
      go_end0
      exact ⟨rfl, by rw [HE.out]; exact HU2.out, hg⟩
end
section
set_option linter.unusedVariables false
def hiQ : Nat → List Nat → List Bool
  | _, [] => []
  | p, h :: t => List.replicate (h - p) false ++ true :: hiQ h t
def lastD (p : Nat) (l : List Nat) : Nat := l.getLast?.getD p
theorem lastD_cons (p h : Nat) (t : List Nat) : lastD p (h :: t) = lastD h t := by
  unfold lastD
  cases t with
  | nil => rfl
  | cons x t => rw [List.getLast?_cons_cons]; cases hq : (x :: t).getLast? with
    | none => simp at hq
    | some y => rfl
theorem hiP_hiQ (H : Nat) : ∀ (l : List Nat) (p : Nat), hiP p l H = hiQ p l ++ List.replicate (H + 1 - lastD p l) false
  | [], p => by simp [hiP, hiQ, lastD]
  | h :: t, p => by rw [hiP, hiQ, hiP_hiQ H t h, lastD_cons]; simp
theorem hiQ_snoc : ∀ (l : List Nat) (p h : Nat), hiQ p (l ++ [h]) = (hiQ p l ++ List.replicate (h - lastD p l) false) ++ [true]
  | [], p, h => by simp [hiQ, lastD]
  | x :: t, p, h => by rw [List.cons_append, hiQ, hiQ, hiQ_snoc t x h, lastD_cons]; simp
theorem hiQ_len : ∀ (l : List Nat) (p : Nat), Up p l → (hiQ p l).length + p = l.length + lastD p l
  | [], p, _ => by simp [hiQ, lastD]
  | h :: t, p, hu => by
    have := hiQ_len t h hu.2
    rw [hiQ, lastD_cons]
    have := hu.1
    simp; omega
theorem up_take : ∀ (l : List Nat) (p i : Nat), Up p l → Up p (l.take i)
  | _, _, 0, _ => by rw [List.take_zero]; trivial
  | [], _, _ + 1, _ => trivial
  | h :: t, p, i + 1, hu => ⟨hu.1, up_take t h i hu.2⟩
theorem up_last : ∀ (l : List Nat) (p i : Nat), Up p l → (h : i < l.length) → lastD p (l.take i) ≤ l[i]
  | x :: t, p, 0, hu, _ => by simp [lastD]; exact hu.1
  | x :: t, p, i + 1, hu, h => by
    rw [List.take_succ_cons, lastD_cons]
    have := up_last t x i hu.2 (by simpa using h)
    simpa using this
theorem loP_snoc (w : Nat) (l : List Nat) (x : Nat) : loP w (l ++ [x]) = loP w l ++ nb (x % 2 ^ w) w := by simp [loP]
theorem ntake_snoc (l : List Nat) (i : Nat) (h : i < l.length) : l.take (i + 1) = l.take i ++ [l[i]?.getD 0] := by
  rw [List.take_succ_eq_append_getElem h, List.getElem?_eq_getElem h]; rfl
theorem lowmask (x k : Nat) : x &&& (2 ^ k - 1) = x % 2 ^ k := Nat.and_two_pow_sub_one_eq_mod x k
end
section
set_option maxRecDepth 100000
set_option linter.unusedVariables false
open Go.RowKit Go.Shelf
attribute [local go_sem] Oper.semAt_some
def ckept (N : Nat) (k : Nat) : Prop := k < N ∨ k = N + 2 ∨ k = N + 3 ∨ k = N + 5
set_option maxHeartbeats 2000000 in
theorem count_l (l : List Bool) (hl : l.length ≤ 8192) (A : Option Addr) (c fr to : Nat) (hft : fr ≤ to) (hto : to ≤ l.length) (r : Nat) (hr : (vis true l fr to).length = r) (w : World) (h : Rd w w.heap.size A (pack l)) :
    Calls Tryz.prog 256 #[.agg #[.int .i64 (l.length : Int), .slice A (pack l).length c], .int .i64 (fr : Int), .int .i64 (to : Int)] w fun e w' => e = .returned (.int .i64 (r : Int)) ∧ Below w.heap.size w w' := by
  have HR := Lib.hid h; clear h
  have HRes := Lib.hid hr; clear hr
  refine (callsIn_wide (n := 4)).1 ?_
  refine callsIn_of_wp_marks Tryz.func256 rfl trivial ?_ rfl
  simp only [Tryz.ntmps256, List.size_toArray, List.length_cons, List.length_nil, Nat.reduceAdd, Nat.reduceSub, Array.replicate_succ, Array.replicate_zero, List.push_toArray, List.append_toArray, List.nil_append, List.cons_append]
  gi_wp2_with (refine ⟨trivial, ?_⟩; gi_at_call 237; refine (of_in 3 _ _ _ _ _ _ _ _).mono ?_; rintro e w' ⟨rfl, rfl⟩)
  simp only [Nat.add_assoc, Nat.reduceAdd]
  obtain ⟨hz, a0, a1, a2, a3, a4, a5⟩ := six w (.cells #[.int .i64 (l.length : Int), .slice A (pack l).length c] 27) (.cells #[.int .i64 0] 3) (.cells #[.int .i64 (l.length : Int), .slice A (pack l).length c] 27) (.cells #[.int .u64 1] 58) (.cells #[.int .i64 (fr : Int)] 3) (.cells #[.int .i64 (to : Int)] 3)
  have hlow : Below w.heap.size w ((((((w.alloc (.cells #[.int .i64 (l.length : Int), .slice A (pack l).length c] 27)).alloc (.cells #[.int .i64 0] 3)).alloc (.cells #[.int .i64 (l.length : Int), .slice A (pack l).length c] 27)).alloc (.cells #[.int .u64 1] 58)).alloc (.cells #[.int .i64 (fr : Int)] 3)).alloc (.cells #[.int .i64 (to : Int)] 3)) :=
    ((((up2 w _ _).alloc (by simp only [World.size_alloc]; omega) _).alloc (by simp only [World.size_alloc]; omega) _).alloc (by simp only [World.size_alloc]; omega) _).alloc (by simp only [World.size_alloc]; omega) _
  generalize ((((((w.alloc (.cells #[.int .i64 (l.length : Int), .slice A (pack l).length c] 27)).alloc (.cells #[.int .i64 0] 3)).alloc (.cells #[.int .i64 (l.length : Int), .slice A (pack l).length c] 27)).alloc (.cells #[.int .u64 1] 58)).alloc (.cells #[.int .i64 (fr : Int)] 3)).alloc (.cells #[.int .i64 (to : Int)] 3)) = w5 at *
  have hvis : ∀ k, ckept w.heap.size k → k < w5.heap.size := by rintro k (h | h | h | h) <;> omega
  refine wpIn_rangeFunc_ownG rfl (by decide) (gf := 257) (lb := #[.pointer (some ⟨w.heap.size + 4, 0, none⟩), .pointer (some ⟨w.heap.size + 5, 0, none⟩), .pointer (some ⟨w.heap.size + 2, 0, none⟩), .pointer (some ⟨w.heap.size + 3, 0, none⟩)]) rfl trivial (enters_of Tryz.func257 (by kernel_rfl) rfl)
    (of_stops 3 (by decide) (w.heap.size + 4) (w.heap.size + 5) (w.heap.size + 2) (w.heap.size + 3) w.heap.size c A (ckept w.heap.size) l hl true fr to hft hto (.inr (.inr (.inr rfl))) (.inr (.inl rfl)) (.inr (.inr (.inl rfl))) (fun k hk => .inl hk) w5 hvis (by omega) (by omega)
      (box_cell a4) (box_cell a5) (box_cell a3) (blk_cells a2).1 (blk_cells a2).2.1 (HR.out.below hlow (Nat.le_refl _)))
    (fun h k => keepS_t h k) (keepS_b hvis) (Below.refl _ _) (fun _ => rfl)
    (fun pre X => Boxed X (w.heap.size + 1) 3 (.int .i64 (pre.length : Int)) ∧ (Fr (ckept w.heap.size) w5 X ∧ w5.heap.size ≤ X.heap.size))
    (fun _ _ _ => False)
    (OwnFrom.and (Own.from (box_own (w.heap.size + 1) 3 (fun pre : List Nat => .int .i64 (pre.length : Int))) _) (fr_own _ w5 w5.heap.size (Nat.le_refl _) hvis))
    (fun _ _ _ _ _ hs _ _ => hs)
    ⟨a1, Fr.refl _ _, Nat.le_refl _⟩
    ?a1 ?assign ?body ?done ?stop
  case assign =>
    intro lp x X K hK
    gi_wp2
    exact hK
  case body =>
    rintro lp pre x X ⟨hbx, hfr, hzz⟩ hlt
    have hcn := hbx.cell
    have hfn := hbx.frozen
    have hw : wrap64 ((pre.length : Int) + 1) = (((pre ++ [x]).length : Nat) : Int) := by
      rw [List.length_append]; simp only [List.length_cons, List.length_nil]; unfold wrap64; omega
    have HW := Lib.hid hw; clear hw
    gi_wp2
    have e1 : ((pre.length : Int) + 1) = (((pre ++ [x]).length : Nat) : Int) := by rw [List.length_append]; simp
    rw [e1]
    have hnk : ¬ ckept w.heap.size (w.heap.size + 1) := by rintro (h | h | h | h) <;> omega
    exact ⟨(KeepsOthers.setCell _ _ _).from _, ⟨fun j hj => Below.heap_setCell _ _ _ _ (fun e => by have e' : j = w.heap.size + 1 := e; subst e'; exact hnk hj), by simp [World.setCell]⟩, hbx.set _, hfr.setCell (p := ⟨w.heap.size + 1, 0, none⟩) hnk _, by simpa [World.setCell] using hzz⟩
  case done =>
    rintro D ys X hD rfl ⟨hbx, hfr, hzz⟩ hK
    rw [HRes.out] at hbx
    have hcn := hbx.cell
    have HF : Hid (Below w.heap.size w (X.putObj D (.deferred none))) := (hlow.trans (hfr.below (fun j hj => .inl hj))).trans (belowK_b (w := w) (Nat.le_refl _) X D _ _ (by have := hlow.size; omega) hK rfl rfl)
    gi_wp2
    refine ⟨by simp, .inl ⟨_, _, rfl, run_takeDeferred hK, ?_⟩⟩
    refine ⟨.int .i64 (r : Int), ?_, rfl, HF.out⟩
    simp [results, Tryz.results256, go_sem]
  case stop =>
    rintro D c pre W _ _ h _
    exact h.elim
theorem count_on (l : List Bool) (hl : l.length ≤ 8192) (A : Option Addr) (c fr to : Nat) (hft : fr ≤ to) (hto : to ≤ l.length) (w : World) (h : Rd w w.heap.size A (pack l)) :
    Calls Tryz.prog 256 #[.agg #[.int .i64 (l.length : Int), .slice A (pack l).length c], .int .i64 (fr : Int), .int .i64 (to : Int)] w fun e w' => e = .returned (.int .i64 ((cnt (l.take to) - cnt (l.take fr) : Nat) : Int)) ∧ Below w.heap.size w w' :=
  count_l l hl A c fr to hft hto _ (vis_count l fr to hft) w h
end
end Go.Proofs.YtbddcokjkdoaaaaGreat
