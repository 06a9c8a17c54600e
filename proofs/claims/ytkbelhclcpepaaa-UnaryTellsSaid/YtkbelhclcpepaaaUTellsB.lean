/- The law UnaryTells, all its ways together. -/
import Derived.Test.YtkbelhclcpepaaaUTells
namespace Go.Proofs.Ytkbelhclcpepaaa
open Go.RowKit

theorem all_both (len : Int) (A : Option Addr) (c : Nat) (bs : List Nat) (p : Int) (hb : ∀ b ∈ bs, b < 256) :
    ∃ (ns : List Nat) (to : Nat) (e0 : Int), ns.length ≤ 8192 ∧ (∀ V, Rd V V.heap.size A bs → Calls Try.prog 22 #[.agg #[.int .i64 len, .slice A bs.length c], .int .i64 p] V (AllP V ns to e0)) ∧
      (∀ V, Rd V V.heap.size A bs → Calls Try.prog 28 #[.agg #[.int .i64 len, .slice A bs.length c], .int .i64 p] V (AllP V ns to e0)) := by
  by_cases hc : chk len bs = 0
  · obtain ⟨l, rfl, hl, rfl⟩ := chk_zero len bs hb hc
    by_cases hp : p < 0 ∨ 8192 < p
    · exact ⟨[], 0, 3, by simp, fun V h => all_range l hl A c p V h hp, fun V h => rall_range l hl A c p V h hp⟩
    · obtain ⟨m, rfl⟩ := Int.eq_ofNat_of_zero_le (show 0 ≤ p by omega)
      by_cases hm : m ≤ (prs 0 l).length
      · exact ⟨(prs 0 l).take m, (ucs ((prs 0 l).take m)).length, 0, by rw [List.length_take]; omega, fun V h => all_l l hl A c m (by omega) _ _ hm rfl rfl V h, fun V h => rall_in l hl A c m (by omega) V h _ _ 0 ⟨fun h => absurd h (by omega), fun _ => ⟨rfl, rfl, rfl⟩⟩⟩
      · exact ⟨[], 0, 7, by simp, fun V h => all_short l hl A c m (by omega) (by omega) V h, fun V h => rall_in l hl A c m (by omega) V h [] 0 7 ⟨fun _ => ⟨rfl, rfl, rfl⟩, fun h => absurd h hm⟩⟩
  · exact ⟨[], 0, chk len bs, by simp, fun V h => all_bad len A c bs p V hb h hc, fun V h => rall_bad len A c bs p V hb h _ rfl hc⟩

theorem usame_ll (l : List Bool) (hl : l.length ≤ 8192) : Hid (∀ (A1 A2 : Option Addr) (c1 c2 : Nat) (V : World), Rd V V.heap.size A1 (pack l) → Rd V V.heap.size A2 (pack l) → Calls Try.prog 30 #[.agg #[.int .i64 (l.length : Int), .slice A1 (pack l).length c1], .agg #[.int .i64 (l.length : Int), .slice A2 (pack l).length c2]] V fun e w' => e = .returned (.bool true) ∧ Below V.heap.size V w') :=
  fun A1 A2 c1 c2 V h1 h2 => same_l l hl A1 A2 c1 c2 V h1 h2

theorem many_len (ns : List Nat) : (if manyE ns = 0 then ucs ns else []).length ≤ 8192 := by
  by_cases h : manyE ns = 0
  · rw [if_pos h]; exact manyE_zero ns h
  · rw [if_neg h]; simp
theorem code_len (n : Nat) : (if 8192 ≤ n then [] else uc n).length ≤ 8192 := by
  by_cases h : 8192 ≤ n
  · rw [if_pos h]; simp
  · rw [if_neg h, uc_length]; omega
theorem bl_rd (l : List Bool) (hl : l.length ≤ 8192) (A : Option Addr) (c : Nat) (V : World) (h : Rd V V.heap.size A (pack l)) :
    Calls Try.prog 26 #[.agg #[.int .i64 (l.length : Int), .slice A (pack l).length c]] V fun e w' => ∃ A c, e = .returned (.slice A l.length c) ∧ RdV w' w'.heap.size A (ic l) ∧ Below V.heap.size V w' :=
  (bitList_any l.length hl A (pack l).length c (pack l) rfl (by rw [pack_length]; omega) (pack_lt l) V h l (unpack_pack l).symm).mono fun _ _ ⟨A', c', h1, h2, h3⟩ => ⟨A', c', h1, own_rdv h2, h3⟩
theorem ur_below (l : List Bool) (hl : l.length ≤ 8192) (s : Nat) (hs : s ≤ l.length) (rn : Nat) (rt : Int)
    (hr : (pos s (l.drop s) = [] → rn = 0 ∧ rt = -1) ∧ ∀ x xs, pos s (l.drop s) = x :: xs → rn = x - s ∧ rt = (x : Int) + 1) (A : Option Addr) (c : Nat) (V : World) (h : RdV V V.heap.size A (ic l)) :
    Calls Try.prog 25 #[.slice A l.length c, .int .i64 (s : Int)] V fun e w' => e = .returned (.tuple #[.int .u64 (rn : Int), .int .i64 rt]) ∧ Below V.heap.size V w' :=
  (uRead_any l l.length rfl hl A c s hs rn rt hr V h).mono fun _ _ ⟨h1, h2⟩ => ⟨h1, by rw [← h2]; exact Below.refl _ _⟩

theorem utells_law (n : Nat) (len : Int) (A : Option Addr) (c : Nat) (bs : List Nat) (p : Int) (B : Option Addr) (d : Nat) (ns : List Nat) (m : Int) (w : World) (hn : n < 18446744073709551616) (hb : ∀ b ∈ bs, b < 256) (hA : Rd w w.heap.size A bs) (_ : -9223372036854775808 ≤ p ∧ p ≤ 9223372036854775807) (_ : ∀ n ∈ ns, n < 18446744073709551616) (hB : RdV w w.heap.size B (nc ns)) (hn2 : ns.length ≤ 9223372036854775807) (_ : -9223372036854775808 ≤ m ∧ m ≤ 9223372036854775807) :
    Calls Try.prog 3 #[.int .u64 (n : Int), .agg #[.int .i64 len, .slice A bs.length c], .int .i64 p, .slice B ns.length d, .int .i64 m] w fun e w' => e = .returned (.bool true) ∧ Below w.heap.size w w' := by
  obtain ⟨nsA, to, eA, hsz, hall, hall2⟩ := all_both len A c bs m hb
  have k1 : Hid (∀ V, Calls Try.prog 19 #[.int .u64 (n : Int)] V (Gv V _ _ _ _)) := fun V => code_any n _ _ rfl rfl V
  have k2 : Hid (∀ V, Calls Try.prog 23 #[.int .u64 (n : Int)] V (Gv V _ _ _ _)) := fun V => rcode_any n hn _ _ rfl rfl V
  have k3 : Hid (∀ V, RdV V V.heap.size B (nc ns) → Calls Try.prog 21 #[.slice B ns.length d] V (Gv V _ _ _ _)) := fun V h => many_any ns B d hn2 V h
  have k4 : Hid (∀ V, RdV V V.heap.size B (nc ns) → Calls Try.prog 27 #[.slice B ns.length d] V (Gv V _ _ _ _)) := fun V h => rmany_walk ns B ns.length d rfl hn2 V h _ _ rfl rfl
  have k5 : Hid (∀ V, Rd V V.heap.size A bs → Calls Try.prog 22 #[.agg #[.int .i64 len, .slice A bs.length c], .int .i64 m] V (AllQ V _ _ _ _)) := fun V h => hall V h
  have k6 : Hid (∀ V, Rd V V.heap.size A bs → Calls Try.prog 28 #[.agg #[.int .i64 len, .slice A bs.length c], .int .i64 m] V (AllQ V _ _ _ _)) := fun V h => hall2 V h
  have k7 := usame_ll _ (code_len n)
  have k8 := usame_ll _ (many_len ns)
  have k9 : Hid (∀ A1 A2 c1 c2 V, RdV V V.heap.size A1 (nc nsA) → RdV V V.heap.size A2 (nc nsA) → Calls Try.prog 31 #[.slice A1 nsA.length c1, .slice A2 nsA.length c2] V fun e w' => e = .returned (.bool true) ∧ Below V.heap.size V w') :=
    fun A1 A2 c1 c2 V h1 h2 => nsame nsA nsA.length rfl hsz A1 A2 c1 c2 V h1 h2
  by_cases hc : chk len bs = 0
  · obtain ⟨l, rfl, hl, rfl⟩ := chk_zero len bs hb hc
    by_cases hp : p < 0 ∨ (l.length : Int) < p
    · have e : rdE (l.length : Int) (pack l) p = 3 := by unfold rdE; rw [if_neg (by omega), if_pos hp]
      exact utells_bad n (l.length : Int) A B c d _ _ (pack l) ns p m w hA hB 3 (by decide) _ _ _ _ _ _ _ _ _ _ _ _ k1 k2 (fun V h => read_range l hl A c p V h hp) (fun V h => readErr_any (l.length : Int) A c (pack l) p V hb h 3 e) k3 k4 k5 k6 k7 k8 k9
    · obtain ⟨s, rfl⟩ := Int.eq_ofNat_of_zero_le (show 0 ≤ p by omega)
      have e : rdE (l.length : Int) (pack l) (s : Int) = 0 := by unfold rdE; rw [if_neg (by omega), if_neg hp]
      cases hx : pos s (l.drop s) with
      | nil => exact utells_none n (l.length : Int) A B c d _ _ (pack l) ns (s : Int) m w hA hB l l.length _ _ _ _ _ _ _ _ _ _ _ _ k1 k2 (fun V h => read_none l hl A c s (by omega) hx V h) (fun V h => readErr_any (l.length : Int) A c (pack l) (s : Int) V hb h 0 e) (fun V h => bl_rd l hl A c V h) (fun A1 c1 V h => ur_below l hl s (by omega) 0 (-1) ⟨fun _ => ⟨rfl, rfl⟩, fun x xs h => (by rw [hx] at h; cases h)⟩ A1 c1 V h) k3 k4 k5 k6 k7 k8 k9
      | cons x xs => exact utells_found n (l.length : Int) A B c d _ _ (pack l) ns (s : Int) m w hA hB l l.length ((x - s : Nat) : Int) ((x + 1 : Nat) : Int) (by omega) _ _ _ _ _ _ _ _ _ _ _ _ k1 k2 (fun V h => read_l l hl A c s (by omega) x xs hx _ _ rfl rfl V h) (fun V h => readErr_any (l.length : Int) A c (pack l) (s : Int) V hb h 0 e) (fun V h => bl_rd l hl A c V h) (fun A1 c1 V h => ur_below l hl s (by omega) (x - s) ((x + 1 : Nat) : Int) ⟨fun h => (by rw [hx] at h; cases h), fun y ys h => (by rw [hx] at h; obtain ⟨rfl, _⟩ := List.cons.inj h; exact ⟨rfl, by omega⟩)⟩ A1 c1 V h) k3 k4 k5 k6 k7 k8 k9
  · have e : rdE len bs p = chk len bs := by unfold rdE; rw [if_pos hc]
    exact utells_bad n len A B c d _ _ bs ns p m w hA hB (chk len bs) hc _ _ _ _ _ _ _ _ _ _ _ _ k1 k2 (fun V h => read_bad len A c bs p V hb h hc) (fun V h => readErr_any len A c bs p V hb h _ e) k3 k4 k5 k6 k7 k8 k9
end Go.Proofs.Ytkbelhclcpepaaa
