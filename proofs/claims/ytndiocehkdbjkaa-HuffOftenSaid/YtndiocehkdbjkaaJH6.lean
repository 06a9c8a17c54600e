/- Texts of this proof, one behind the other (HLen, HCountE, HEnc, HBackP, HFits, HPack, KRefA, KSame, HCost, HUnpE, HLw, HBegun); each fact names its conditions. -/
import Derived.Test.YtndiocehkdbjkaaJH4
import Derived.Test.YtndiocehkdbjkaaJH5
import Derived.Test.YtndiocehkdbjkaaJH3
import Derived.Deep.RegionWith
import Derived.Test.YtndiocehkdbjkaaJH2
namespace Go.Proofs.Ytndiocehkdbjkaa

section
set_option maxRecDepth 100000
set_option linter.unusedVariables false
open Go.RowKit Go.Shelf Go.Sort

def d8 (x : Int) : Int := if 24 < x then 8 else 0
theorem d8_all (l : List Nat) (h : ∀ x ∈ l, x ≤ 24) : eachE d8 (ns l) = 0 := by
  rw [eachE_zero]
  intro x hx
  obtain ⟨y, hy, rfl⟩ := List.mem_map.1 hx
  have := h y hy
  unfold d8
  rw [if_neg (by omega)]
theorem d8_two : ∀ l : List Int, eachE d8 l = 0 ∨ eachE d8 l = 8
  | [] => .inl rfl
  | x :: t => by
    unfold eachE
    have := d8_two t
    by_cases h : 24 < x
    · have e : d8 x = 8 := if_pos h
      rw [e]; simp
    · have e : d8 x = 0 := if_neg h
      rw [e]; simpa using this
theorem d8_no (l : List Nat) (h : ¬ ∀ x ∈ l, x ≤ 24) : eachE d8 (ns l) = 8 := by
  rcases d8_two (ns l) with h0 | h0
  · exfalso
    refine h fun x hx => ?_
    have := (eachE_zero d8 (ns l)).1 h0 (x : Int) (List.mem_map.2 ⟨x, hx, rfl⟩)
    unfold d8 at this
    split at this <;> omega
  · exact h0
/-- What Lengths answers. -/
def lnA (os : List Nat) : List Nat × Int := if eachE d8 (ns (hl os)) = 0 then (hl os, 0) else ([], 8)
def hlA (xs : List Int) : List Nat × Int := if 64 < xs.length then ([], 2) else if ofE xs ≠ 0 then ([], ofE xs) else lnA (xs.map Int.toNat)

set_option maxHeartbeats 1000000 in
theorem len_m (n c : Nat) (A : Option Addr) (h : 64 < n) (w : World) : Calls Try.prog 16 #[.slice A n c] w (GotZ w ([], 2)) := by
  have t0 : decide ((64 : Int) < (n : Int)) = true := by simp; omega
  have t1 : decide (64 < n) = true := by simpa using h
  go_enter Try.func16, Try.ntmps16
  go_wp2
  go_ret2
  exact gotZ_err rfl (Below.refl _ _)
set_option maxHeartbeats 1000000 in
theorem len_o (n c : Nat) (A : Option Addr) (h : n ≤ 64) (k : Int) (hk : k ≠ 0) (w : World) (hO : Calls Try.prog 43 #[.slice A n c] w fun e w' => e = .returned (.int .i64 k) ∧ Below w.heap.size w w') : Calls Try.prog 16 #[.slice A n c] w (GotZ w ([], k)) := by
  have t0 : decide ((64 : Int) < (n : Int)) = false := by simp; omega
  have t1 : decide (64 < n) = false := by simp; omega
  have t2 : (k != 0) = true := by simpa using hk
  have HO := Lib.hid hO
  clear hO hk
  go_enter Try.func16, Try.ntmps16
  go_wp2_with fail
  refine HO.out.mono ?_
  rintro e w1 ⟨rfl, b1⟩
  have HB := Lib.hid b1; clear b1
  go_wp2
  go_ret2
  exact gotZ_err rfl HB.out
set_option maxHeartbeats 2000000 in
theorem len_ok (os : List Nat) (n : Nat) (hn : os.length = n) (h64 : n ≤ 64) (hb : ∀ x ∈ os, x ≤ 1048576) (A : Option Addr) (c : Nat) (w : World) (h : RdV w w.heap.size A (zc (ns os))) : Calls Try.prog 16 #[.slice A n c] w (GotZ w (lnA os)) := by
  have t0 : decide ((64 : Int) < (n : Int)) = false := by simp; omega
  have t1 : decide (64 < n) = false := by simp; omega
  have HO : Hid (Calls Try.prog 43 #[.slice A n c] w fun e w' => e = .returned (.int .i64 0) ∧ Below w.heap.size w w') := by
    have := often_any (ns os) n (by rw [ns_length]; exact hn) (by omega) A c w h
    rwa [ofE_ok os hb] at this
  have HG : Hid (∀ V, Below w.heap.size w V → Calls Try.prog 45 #[.slice A n c] V fun e w' => ∃ v, e = .returned v ∧ GRow w' V.heap.size v (groups 0 os) ∧ Below V.heap.size V w') := fun V hV => groupsOf_ok os n hn h64 A c V (h.on hV)
  have HD : Hid (∀ (base : Nat) (v : Value) (V : World), GRow V base v (groups 0 os) → base ≤ V.heap.size → Calls Try.prog 44 #[v, .int .i64 (n : Int)] V fun e w' => ∃ g, e = .returned (.slice (some ⟨g, 0, none⟩) n n) ∧ w'.ownsRow V.heap.size 3 1 (.slice (some ⟨g, 0, none⟩) n n) n (zc (ns (hl os))) ∧ Below base V w') := fun base v V hg hbase => deepen_ok os n hn h64 hb base v V hg hbase
  have hll : (hl os).length = n := by rw [hl_length]; exact hn
  have HE : Hid (∀ (g : Nat) (V : World), RdV V V.heap.size (some ⟨g, 0, none⟩) (zc (ns (hl os))) → Calls Try.prog 46 #[.slice (some ⟨g, 0, none⟩) n n, .func (.func 47) #[] #[]] V fun e w' => e = .returned (.int .i64 (eachE d8 (ns (hl os)))) ∧ Below V.heap.size V w') := fun g V hV => each_int 47 #[] d8 (ns (hl os)) n (by rw [ns_length]; exact hll) (by omega) (some ⟨g, 0, none⟩) n V hV entersDeep1 (fun x V' _ => deepOne x V')
  unfold lnA
  have HLL := Lib.hid hll
  clear h hb hn hll
  generalize hl os = l at *
  generalize groups 0 os = gs at *
  rcases d8_two (ns l) with he | he
  · rw [he] at HE
    rw [if_pos he]
    clear he
    go_enter Try.func16, Try.ntmps16
    go_wp2_with fail
    refine HO.out.mono ?_
    rintro e w1 ⟨rfl, b1⟩
    have HB := Lib.hid b1; clear b1
    go_wp2_with fail
    refine (HG.out w1 HB.out).mono ?_
    rintro e w2 ⟨v, rfl, g2, b2⟩
    have HD2 := Lib.hid (HD.out w1.heap.size v w2 g2 b2.size)
    have HB2 := Lib.hid (HB.out.trans (b2.mono HB.out.size))
    have HS2 : Hid (w.heap.size ≤ w1.heap.size) := HB.out.size
    have HS3 : Hid (w1.heap.size ≤ w2.heap.size) := b2.size
    clear g2 b2
    go_wp2_with fail
    refine HD2.out.mono ?_
    rintro e w3 ⟨g, rfl, o3, b3⟩
    have HO3 := Lib.hid o3
    have HB3 := Lib.hid (HB2.out.trans (b3.mono HS2.out))
    have HE3 := Lib.hid (HE.out g w3 (own_rdv o3))
    clear o3 b3
    go_wp2_with fail
    refine HE3.out.mono ?_
    rintro e w4 ⟨rfl, b4⟩
    have HO4 := Lib.hid (own_below HO3.out b4)
    have HB4 := Lib.hid (HB3.out.trans (b4.mono HB3.out.size))
    clear b4
    go_wp2
    go_ret2
    exact gotZ_ok rfl (by rw [HLL.out]; exact own_base HO4.out (Nat.le_trans HS2.out HS3.out)) HB4.out
  · rw [he] at HE
    rw [if_neg (by omega)]
    clear he
    go_enter Try.func16, Try.ntmps16
    go_wp2_with fail
    refine HO.out.mono ?_
    rintro e w1 ⟨rfl, b1⟩
    have HB := Lib.hid b1; clear b1
    go_wp2_with fail
    refine (HG.out w1 HB.out).mono ?_
    rintro e w2 ⟨v, rfl, g2, b2⟩
    have HD2 := Lib.hid (HD.out w1.heap.size v w2 g2 b2.size)
    have HB2 := Lib.hid (HB.out.trans (b2.mono HB.out.size))
    have HS2 : Hid (w.heap.size ≤ w1.heap.size) := HB.out.size
    clear g2 b2
    go_wp2_with fail
    refine HD2.out.mono ?_
    rintro e w3 ⟨g, rfl, o3, b3⟩
    have HB3 := Lib.hid (HB2.out.trans (b3.mono HS2.out))
    have HE3 := Lib.hid (HE.out g w3 (own_rdv o3))
    clear o3 b3
    go_wp2_with fail
    refine HE3.out.mono ?_
    rintro e w4 ⟨rfl, b4⟩
    have HB4 := Lib.hid (HB3.out.trans (b4.mono HB3.out.size))
    clear b4
    go_wp2
    go_ret2
    exact gotZ_err rfl HB4.out
theorem lengths_any (xs : List Int) (n : Nat) (hn : xs.length = n) (hn2 : n ≤ 9223372036854775807) (A : Option Addr) (c : Nat) (w : World) (h : RdV w w.heap.size A (zc xs)) : Calls Try.prog 16 #[.slice A n c] w (GotZ w (hlA xs)) := by
  unfold hlA
  by_cases h1 : 64 < xs.length
  · rw [if_pos h1]
    exact len_m n c A (by omega) w
  · rw [if_neg h1]
    by_cases h2 : ofE xs = 0
    · rw [if_neg (by simpa using h2)]
      obtain ⟨os, rfl, hb⟩ := ofE_zero xs h2
      rw [ns_length] at hn h1
      rw [ns_nat]
      exact len_ok os n hn (by omega) hb A c w h
    · rw [if_pos (by simpa using h2)]
      exact len_o n c A (by omega) _ h2 w (often_any xs n hn hn2 A c w h)
end

section
set_option maxRecDepth 100000
set_option linter.unusedVariables false
open Go.RowKit Go.Shelf

theorem eachE_two {α : Type} (f : α → Int) (h : ∀ x, f x = 0 ∨ f x = 3) : ∀ l, eachE f l = 0 ∨ eachE f l = 3
  | [] => .inl rfl
  | x :: t => by
    unfold eachE
    rcases h x with h1 | h1
    · rw [if_pos h1]; exact eachE_two f h t
    · rw [if_neg (by omega)]; exact .inr h1
set_option maxHeartbeats 2000000 in
theorem count_f (n c : Nat) (m e0 e1 : Int) (hm : rg 64 m = 0) (A : Option Addr) (w : World)
    (hE : ∀ V, Below (w.heap.size + 1) (w.alloc (.cells #[.int .i64 m] 3)) V → Calls Try.prog 46 #[.slice A n c, .func (.func 85) #[] #[.pointer (some ⟨w.heap.size, 0, none⟩)]] V fun e w' => e = .returned (.int .i64 e0) ∧ Below V.heap.size V w')
    (h : (e0 ≠ 0 ∧ e1 = e0) ∨ (e0 = 0 ∧ 1000 < n ∧ e1 = 2)) :
    Calls Try.prog 49 #[.slice A n c, .int .i64 m] w (CntE w e1) := by
  have HR := Lib.hid (range2 0 (decide (0 ≤ m)) (decide (m ≤ 64)) 0 (by rw [rg_eq 64 m]; exact hm))
  have HV : Hid (Below w.heap.size w (w.alloc (.cells #[.int .i64 m] 3)) ∧ (w.alloc (.cells #[.int .i64 m] 3)).heap.size = w.heap.size + 1 ∧ ∀ w', Below (w.heap.size + 1) (w.alloc (.cells #[.int .i64 m] 3)) w' → w'.cell? ⟨w.heap.size, 0, none⟩ = some (.int .i64 m)) := ⟨one_below _ _, by simp, fun w' h => box_here w w' m h⟩
  have HE := Lib.hid hE; clear hE hm
  rcases h with ⟨h0, rfl⟩ | ⟨rfl, hn, rfl⟩
  · have t0 : (e1 != 0) = true := by simpa using h0
    clear h0
    go_enter Try.func49, Try.ntmps49
    go_wp2_with fail
    generalize w.alloc (.cells #[.int .i64 m] 3) = V0 at *
    refine (HR.out V0 _ HV.out.2.1).mono ?_
    rintro e w1 ⟨rfl, b1⟩
    have HB1 : Hid (Below (w.heap.size + 1) V0 w1) := by rw [HV.out.2.1] at b1; exact b1
    clear b1
    go_wp2_with fail
    refine (HE.out w1 HB1.out).mono ?_
    rintro e w2 ⟨rfl, b2⟩
    have HB2 : Hid (Below (w.heap.size + 1) V0 w2) := HB1.out.trans (b2.mono (by have := HB1.out.size; have := HV.out.2.1; omega))
    clear b2
    go_wp2
    go_ret2
    exact ⟨rfl, HV.out.1.trans (HB2.out.mono (by omega))⟩
  · have t0 : decide ((1000 : Int) < (n : Int)) = true := by simp; omega
    have t1 : decide (1000 < n) = true := by simp; omega
    clear hn
    go_enter Try.func49, Try.ntmps49
    go_wp2_with fail
    generalize w.alloc (.cells #[.int .i64 m] 3) = V0 at *
    refine (HR.out V0 _ HV.out.2.1).mono ?_
    rintro e w1 ⟨rfl, b1⟩
    have HB1 : Hid (Below (w.heap.size + 1) V0 w1) := by rw [HV.out.2.1] at b1; exact b1
    clear b1
    go_wp2_with fail
    refine (HE.out w1 HB1.out).mono ?_
    rintro e w2 ⟨rfl, b2⟩
    have HB2 : Hid (Below (w.heap.size + 1) V0 w2) := HB1.out.trans (b2.mono (by have := HB1.out.size; have := HV.out.2.1; omega))
    clear b2
    go_wp2
    go_ret2
    exact ⟨rfl, HV.out.1.trans (HB2.out.mono (by omega))⟩
/-- The error of count. -/
def cnE (xs : List Int) (m : Int) : Int := if rg 64 m ≠ 0 then 3 else if eachE (rb m) xs ≠ 0 then 3 else if 1000 < xs.length then 2 else 0
theorem count_e (xs : List Int) (n : Nat) (hn : xs.length = n) (hn2 : n ≤ 9223372036854775807) (m : Int) (he : cnE xs m ≠ 0) (A : Option Addr) (c : Nat) (w : World) (h : RdV w w.heap.size A (zc xs)) :
    Calls Try.prog 49 #[.slice A n c, .int .i64 m] w (CntE w (cnE xs m)) := by
  unfold cnE at he ⊢
  by_cases h1 : rg 64 m = 0
  · rw [if_neg (by omega)] at he ⊢
    refine count_f n c m (eachE (rb m) xs) _ h1 A w (fun V hV => signs_each xs n hn hn2 m A c w h V hV) ?_
    by_cases h2 : eachE (rb m) xs = 0
    · rw [if_neg (by omega)] at he ⊢
      by_cases h3 : 1000 < xs.length
      · rw [if_pos h3]; exact .inr ⟨h2, by omega, rfl⟩
      · rw [if_neg h3] at he; exact absurd rfl he
    · rw [if_pos h2]
      rcases eachE_two (rb m) (rb_or m) xs with h3 | h3
      · exact absurd h3 h2
      · exact .inl ⟨h2, h3.symm⟩
  · rw [if_pos h1]
    exact count_m n c m h1 A w
theorem cnE_zero (xs : List Int) (m : Int) (h : cnE xs m = 0) : ∃ (k : Nat) (ss : List Nat), m = (k : Int) ∧ k ≤ 64 ∧ xs = ns ss ∧ ss.length ≤ 1000 ∧ ∀ x ∈ ss, x < k := by
  unfold cnE at h
  by_cases h1 : rg 64 m = 0
  · rw [if_neg (by omega)] at h
    by_cases h2 : eachE (rb m) xs = 0
    · rw [if_neg (by omega)] at h
      by_cases h3 : 1000 < xs.length
      · rw [if_pos h3] at h; omega
      · rw [rg_zero] at h1
        rw [eachE_zero] at h2
        refine ⟨m.toNat, xs.map Int.toNat, by omega, by omega, ?_, by rw [List.length_map]; omega, ?_⟩
        · unfold ns
          rw [List.map_map]
          conv => lhs; rw [← List.map_id xs]
          refine List.map_congr_left fun x hx => ?_
          have := (rb_zero m x).1 (h2 x hx)
          simp only [id, Function.comp]
          omega
        · intro y hy
          obtain ⟨x, hx, rfl⟩ := List.mem_map.1 hy
          have := (rb_zero m x).1 (h2 x hx)
          omega
    · rw [if_pos h2] at h; omega
  · rw [if_pos h1] at h; omega
end

section
set_option maxRecDepth 100000
set_option linter.unusedVariables false
open Go.RowKit Go.Shelf Go.Sort

theorem cat_take (l ss : List Nat) (i : Nat) : (cat l (ss.take i)).length ≤ (cat l ss).length := by
  conv => rhs; rw [← List.take_append_drop i ss]
  simp only [cat, List.flatMap_append, List.length_append]
  omega
/-- At each round's head: the codes of the first i signs are joined. -/
def EnRel (l ss : List Nat) (Ba : Nat) (w1 : World) (p : Value) (wr : World) : Prop :=
  ∃ (i : Nat) (Aa : Option Addr) (ca : Nat), i ≤ ss.length ∧ p = .int .i64 (i : Int) ∧
    wr.heap[Ba]? = some (.cells #[.int .i64 ((cat l (ss.take i)).length : Int), .slice Aa (pack (cat l (ss.take i))).length ca] 25 (0, 0)) ∧ Rd wr wr.heap.size Aa (pack (cat l (ss.take i))) ∧ Below w1.heap.size w1 wr

set_option maxHeartbeats 4000000 in
theorem encode_ok (l : List Nat) (n1 : Nat) (hn : l.length = n1) (h64 : n1 ≤ 64) (h24 : ∀ x ∈ l, x ≤ 24) (hr : tkn l ≤ 16777216) (A1 : Option Addr) (c1 : Nat) (ss : List Nat) (n2 : Nat) (hm : ss.length = n2) (hm2 : n2 ≤ 1000) (hss : ∀ s ∈ ss, s < n1) (htot : (cat l ss).length ≤ 8192) (A2 : Option Addr) (c2 : Nat) (w : World) (h1 : RdV w w.heap.size A1 (zc (ns l))) (h2 : RdV w w.heap.size A2 (zc (ns ss))) :
    Calls Try.prog 50 #[.slice A2 n2 c2, .slice A1 n1 c1] w (Gave w (cat l ss) 0) := by
  obtain ⟨w0, hw0⟩ : ∃ w0, w.alloc (.cells #[.int .i64 0, .slice none 0 0] 25) = w0 := ⟨_, rfl⟩
  have HW0 : Hid (Below w.heap.size w w0 ∧ w0.heap.size = w.heap.size + 1 ∧ w0.heap[w.heap.size]? = some (.cells #[.int .i64 0, .slice none 0 0] 25 (0, 0))) := by
    rw [← hw0]; exact ⟨one_below _ _, by simp, World.alloc_heap_new w _⟩
  have HC : Hid (Calls Try.prog 51 #[.slice A1 n1 c1] w0 (GotC w0 (codes l))) := codes_ok l n1 hn h64 h24 hr A1 c1 w0 (h1.on HW0.out.1)
  have HX := Lib.hid h2; have HM := Lib.hid hm
  have HN := Lib.hid hn
  have HSs := Lib.hid hss; have HTot := Lib.hid htot
  have HCL : Hid ((codes l).length = n1) := by show _ = _; rw [codes_length, hn]
  have HLen : Hid (∀ s, s < n1 → (codOf (words l) s).length ≤ 24) := by
    intro s hs
    rw [codOf_len (words_ok l h24) (by omega)]
    exact h24 _ (at_mem l s (by omega))
  clear h1 h2 hm hn hr h24 hss htot
  go_enter Try.func50, Try.ntmps50
  go_wp2_with fail
  refine HC.out.mono ?_
  rintro e w1 ⟨Ac, cc, bs, rfl, hbs, rr, b1⟩
  rw [HCL.out]
  have HRR := Lib.hid rr; have HBs := Lib.hid hbs; have HB1 := Lib.hid b1
  clear rr hbs b1
  have HLow : Hid (Below w.heap.size w w1) := HW0.out.1.trans (HB1.out.mono (by have := HW0.out.2.1; omega))
  have HCell : Hid (∀ s, s < n1 → ∃ y : Bx, (bs.map rx)[s]? = some (rx y) ∧ y.1 = codOf (words l) s) := by
    intro i hi
    have e1 : (bs.map (fun x : Bx => x.1))[i]? = some (codOf (words l) i) := by
      rw [HBs.out]
      have := codes_get l (show i < l.length by rw [HN.out]; exact hi)
      rw [List.getElem?_eq_getElem (by rw [HCL.out]; exact hi)] at this ⊢
      exact congrArg some this
    rw [List.getElem?_map] at e1
    obtain ⟨y, hy, hy2⟩ := Option.map_eq_some_iff.1 e1
    exact ⟨y, by rw [List.getElem?_map, hy]; rfl, hy2⟩
  clear hw0
  go_wp2
  go_loopw [23] (fun p wr => EnRel l ss w1.heap.size w1 p wr) (fun p _ => n2 - (intOf p).toNat)
  case atStart => exact ⟨0, none, 0, Nat.zero_le _, rfl, (by have e := World.alloc_heap_new w1 (.cells #[.int .i64 0, .slice none 0 0] 25); simpa [cat, pack_nil] using e), .inl (by simp [cat, pack_nil]), one_below w1 _⟩
  case round =>
    obtain ⟨i, Aa, ca, him, rfl, hbox, hrd, hbel⟩ := hrel
    rw [HM.out] at him
    have HBox := Lib.hid hbox; have HRd := Lib.hid hrd; have HBel := Lib.hid hbel
    clear hbox hrd
    by_cases hlt : i < n2
    · have hil : i < ss.length := by rw [HM.out]; exact hlt
      obtain ⟨bx, ox, rfl, hbx, kx⟩ := ((HX.out.on HLow.out).below hbel hbel.size).at_ (ns_get ss i hil)
      have hsn := HSs.out _ (at_mem ss i hil)
      have htk := take_snoc ss i hil
      have hct := cat_take l ss i
      have hct2 := cat_take l ss (i + 1)
      rw [htk] at hct2
      generalize ss[i]?.getD 0 = s at *
      have HTk := Lib.hid htk
      obtain ⟨y, hy, ey⟩ := HCell.out s hsn
      obtain ⟨b, off, rfl, hb, k0, k1, k2⟩ := (HRR.out.below HBel.out HBel.out.size).at_ hy
      have hC24 := HLen.out s hsn
      obtain ⟨yC, As, cs⟩ := y
      simp only [rx] at k0 k1 k2 ey
      have hcat := cat_snoc l (ss.take i) s
      rw [← ey] at hcat hC24
      have hjl : (cat l (ss.take i)).length + yC.length ≤ 8192 := by
        have := HTot.out
        rw [hcat, List.length_append] at hct2; omega
      have HJ : Hid (∀ V, Below wr.heap.size wr V → Calls Try.prog 86 #[.agg #[.int .i64 ((cat l (ss.take i)).length : Int), .slice Aa (pack (cat l (ss.take i))).length ca], .agg #[.int .i64 (yC.length : Int), .slice As (pack yC).length cs]] V (fun e w' => ∃ (A5 : Option Addr) (c5 : Nat), e = .returned (.tuple #[.agg #[.int .i64 ((cat l (ss.take (i + 1))).length : Int), .slice A5 (pack (cat l (ss.take (i + 1)))).length c5], .int .i64 0]) ∧ Rd w' w'.heap.size A5 (pack (cat l (ss.take (i + 1)))) ∧ Below V.heap.size V w')) := fun V hV =>
        (join_f (cat l (ss.take i)) yC (cat l (ss.take (i + 1))) (by omega) (by omega) Aa As ca cs V (HRd.out.on hV) (k2.below hV hV.size) (by rw [HTk.out]; exact hcat) hjl).mono fun e w' ⟨A5, c5, q1, q2, q3, q4⟩ => ⟨A5, c5, q1, q2, q3⟩
      have hBaw : w1.heap.size < wr.heap.size := (Array.getElem?_eq_some_iff.1 HBox.out).1
      have n0 : wr.cell? ⟨w1.heap.size, 0, none⟩ = some (.int .i64 ((cat l (ss.take i)).length : Int)) := (cell_at HBox.out _).trans rfl
      have n1' : wr.cell? ⟨w1.heap.size, 1, none⟩ = some (.slice Aa (pack (cat l (ss.take i))).length ca) := (cell_at HBox.out _).trans rfl
      clear hcat ey hy k2 hjl hC24 htk hct hct2 hbel hil
      generalize (cat l (ss.take i)).length = Ll at *
      generalize (pack (cat l (ss.take i))).length = NL at *
      generalize yC.length = lc at *
      generalize (pack yC).length = NC at *
      generalize hL2 : (cat l (ss.take (i + 1))).length = L2 at *
      generalize hB2 : pack (cat l (ss.take (i + 1))) = bs2 at *
      have HL2 := Lib.hid hL2; have HB2 := Lib.hid hB2
      clear hL2 hB2
      go_wp2_with fail
      go_region_with (go_at_call 86; refine (HJ.out wr.drew (Below.refl _ wr).drew).mono ?_; rintro e w5 ⟨A5, c5, rfl, r5, B5⟩; have hk1 : Hid (Below wr.heap.size wr w5) := ((Below.refl _ wr).drew).trans B5; have hr5 := Lib.hid r5; have hb7 := (hk1.out.block w1.heap.size hBaw).trans HBox.out; have q0 : w5.cell? ⟨w1.heap.size, 0, none⟩ = some (.int .i64 (Ll : Int)) := (cell_at hb7 _).trans rfl; have q1 : w5.cell? ⟨w1.heap.size, 1, none⟩ = some (.slice Aa NL ca) := (cell_at hb7 _).trans rfl; have f0 := frz_at hb7 0; have f1 := frz_at hb7 1; have Hb7 := Lib.hid hb7; clear B5 r5 hb7)
      all_goals (
        have HBx8 : Hid (((w5.setCell ⟨w1.heap.size, 0, none⟩ (.int .i64 (L2 : Int))).setCell ⟨w1.heap.size, 1, none⟩ (.slice A5 bs2.length c5)).heap[w1.heap.size]? = some (.cells #[.int .i64 (L2 : Int), .slice A5 bs2.length c5] 25 (0, 0))) := by
          show _ = _
          rw [heap_set_same _ _ _ _ _ _ (heap_set_same _ _ _ _ _ _ Hb7.out)]
          simp
        have HRd8 : Hid (Rd ((w5.setCell ⟨w1.heap.size, 0, none⟩ (.int .i64 (L2 : Int))).setCell ⟨w1.heap.size, 1, none⟩ (.slice A5 bs2.length c5)) ((w5.setCell ⟨w1.heap.size, 0, none⟩ (.int .i64 (L2 : Int))).setCell ⟨w1.heap.size, 1, none⟩ (.slice A5 bs2.length c5)).heap.size A5 bs2) := by
          have e1 : (w5.setCell ⟨w1.heap.size, 0, none⟩ (.int .i64 (L2 : Int))).heap[w1.heap.size]? = some (.cells #[.int .i64 (L2 : Int), .slice Aa NL ca] 25 (0, 0)) := by
            rw [heap_set_same _ _ _ _ _ _ Hb7.out]; simp
          have r8 := (hr5.out.setK (i := 0) (.int .i64 (L2 : Int)) Hb7.out).setK (i := 1) (.slice A5 bs2.length c5) e1
          have hsz : ((w5.setCell ⟨w1.heap.size, 0, none⟩ (.int .i64 (L2 : Int))).setCell ⟨w1.heap.size, 1, none⟩ (.slice A5 bs2.length c5)).heap.size = w5.heap.size := by simp [World.setCell]
          show Rd _ _ A5 bs2
          rw [hsz]; exact r8
        have HB8 : Hid (Below w1.heap.size w1 ((w5.setCell ⟨w1.heap.size, 0, none⟩ (.int .i64 (L2 : Int))).setCell ⟨w1.heap.size, 1, none⟩ (.slice A5 bs2.length c5))) := ((HBel.out.trans (hk1.out.mono HBel.out.size)).setCell (Nat.le_refl _) _).setCell (Nat.le_refl _) _
        clear q0 q1 f0 f1
        go_wp2
        go_roundw
        case rel => exact ⟨i + 1, A5, c5, by rw [HM.out]; omega, by go_num, by rw [HL2.out, HB2.out]; exact HBx8.out, by rw [HB2.out]; exact HRd8.out, HB8.out⟩
        case measure => simp [intOf]; omega)
    · have e : ss.take i = ss := List.take_of_length_le (by rw [HM.out]; omega)
      rw [e] at HBox HRd
      have n0 : wr.cell? ⟨w1.heap.size, 0, none⟩ = some (.int .i64 ((cat l ss).length : Int)) := (cell_at HBox.out _).trans rfl
      have n1' : wr.cell? ⟨w1.heap.size, 1, none⟩ = some (.slice Aa (pack (cat l ss)).length ca) := (cell_at HBox.out _).trans rfl
      have hrb : wr.heap[w.heap.size]? = some (.cells #[.int .i64 0, .slice none 0 0] 25 (0, 0)) := by
        have h1 := HW0.out.2.1
        have h2 := HB1.out.size
        rw [hbel.block _ (by omega), HB1.out.block _ (by omega)]
        exact HW0.out.2.2
      obtain ⟨⟨d0, d1, g0, g1⟩, HG⟩ := gv_store (w := w) (w1 := wr) (L := cat l ss) (A := Aa) (c := ca) (r := w.heap.size) HRd.out (Nat.le_refl _) hrb (HLow.out.trans (hbel.mono HLow.out.size))
      clear hrb hbel e
      go_wp2
      exact bodyPost_ret (v := .tuple #[.agg #[.int .i64 ((cat l ss).length : Int), .slice Aa (pack (cat l ss)).length ca], .int .i64 0]) (by simp [results, Try.results50, go_sem, d0, d1]) rfl HG.out
end

section
set_option maxRecDepth 100000
set_option linter.unusedVariables false

theorem unS_cat (l : List Nat) (h24 : ∀ x ∈ l, x ≤ 24) (hr : tkn l ≤ 16777216) (ps : List Nat) (hps : ∀ p ∈ ps, p < l.length ∧ codOf (words l) p ≠ []) : ∀ k, k ≤ ps.length → unS l (cat l ps) k = (ps.take k, (cat l (ps.take k)).length, 0)
  | 0, _ => by simp [unS, cat]
  | k + 1, hk => by
    have ih := unS_cat l h24 hr ps hps k (by omega)
    obtain ⟨h1, _, _⟩ := cat_sign l h24 hr ps hps k (by omega)
    have h2 := unS_one l (cat l ps) k (ps.take k) _ ih _ _ _ h1
    rw [h2, if_pos rfl, take_snoc ps k (by omega)]
theorem unA_cat (l : List Nat) (h24 : ∀ x ∈ l, x ≤ 24) (hr : tkn l ≤ 16777216) (ps : List Nat) (hps : ∀ p ∈ ps, p < l.length ∧ codOf (words l) p ≠ []) : unA l (cat l ps) ps.length = (ps, 0) := by
  have h := unS_cat l h24 hr ps hps ps.length (Nat.le_refl _)
  rw [List.take_length] at h
  unfold unA
  rw [h, if_neg (by simp), if_neg (by simp)]
theorem dot_zero : ∀ (k : Nat) (ls : List Nat), dot (List.replicate k 0) ls = 0
  | 0, ls => by simp [dot]
  | k + 1, [] => by simp [List.replicate_succ, dot]
  | k + 1, y :: ls => by rw [List.replicate_succ]; simp only [dot]; rw [dot_zero k ls]; omega
theorem cat_cost (l : List Nat) (h24 : ∀ x ∈ l, x ≤ 24) (ps : List Nat) (hps : ∀ p ∈ ps, p < l.length) : ∀ k, k ≤ ps.length → (cat l (ps.take k)).length = dot (cntL l.length (ps.take k)) l
  | 0, _ => by rw [List.take_zero, cntL_nil, dot_zero]; rfl
  | k + 1, hk => by
    have ih := cat_cost l h24 ps hps k (by omega)
    have hp := hps _ (at_mem ps k (by omega))
    rw [take_snoc ps k (by omega)]
    generalize ps[k]?.getD 0 = p at *
    rw [cat_snoc, List.length_append, ih, codOf_len (words_ok l h24) hp, cntL_snoc _ _ _ hp]
    have hd := dot_set_l (cntL l.length (ps.take k)) l p ((ps.take k).count p + 1) (by rw [cntL_length]; exact hp) hp
    have hc := cntL_at l.length (ps.take k) p hp
    unfold oAt at hd
    rw [hc, Nat.add_mul, Nat.one_mul] at hd
    omega
theorem cat_costs (l : List Nat) (h24 : ∀ x ∈ l, x ≤ 24) (ps : List Nat) (hps : ∀ p ∈ ps, p < l.length) : (cat l ps).length = dot (cntL l.length ps) l := by
  have h := cat_cost l h24 ps hps ps.length (Nat.le_refl _)
  rwa [List.take_length] at h
end

section
set_option maxRecDepth 100000
set_option linter.unusedVariables false

theorem cnt_six (n : Nat) (ps : List Nat) (hps : ∀ p ∈ ps, p < n) : ∀ k, k ≤ ps.length → dot (cntL n (ps.take k)) (List.replicate n 6) = 6 * k
  | 0, _ => by rw [List.take_zero, cntL_nil, dot_zero]
  | k + 1, hk => by
    have ih := cnt_six n ps hps k (by omega)
    have hp := hps _ (at_mem ps k (by omega))
    rw [take_snoc ps k (by omega)]
    generalize ps[k]?.getD 0 = p at *
    rw [cntL_snoc _ _ _ hp]
    have hd := dot_set_l (cntL n (ps.take k)) (List.replicate n 6) p ((ps.take k).count p + 1) (by rw [cntL_length]; exact hp) (by rw [List.length_replicate]; exact hp)
    have hc := cntL_at n (ps.take k) p hp
    have h6 : oAt (List.replicate n 6) p = 6 := by unfold oAt; rw [List.getElem?_replicate, if_pos hp]; rfl
    unfold oAt at hd h6
    rw [hc, h6] at hd
    omega
theorem tkn_six : ∀ n, tkn (List.replicate n 6) = n * 2 ^ 18
  | 0 => by simp [tkn]
  | n + 1 => by rw [List.replicate_succ]; simp only [tkn, tkn_six n]; unfold tk; rw [if_neg (by omega)]; omega
theorem pack_fits (n : Nat) (h64 : n ≤ 64) (ps : List Nat) (hps : ∀ p ∈ ps, p < n) (h1000 : ps.length ≤ 1000) : dot (cntL n ps) (hl (cntL n ps)) ≤ 6000 := by
  have h := cnt_six n ps hps ps.length (Nat.le_refl _)
  rw [List.take_length] at h
  have hle := least (cntL n ps) (List.replicate n 6) (by rw [cntL_length, List.length_replicate]) (fun i o l _ h2 _ => by
    rw [List.getElem?_replicate] at h2
    split at h2
    · cases h2; omega
    · cases h2) (fun l hl => by rw [(List.mem_replicate.1 hl).2]; omega) (by rw [tkn_six]; omega)
  omega
/-- Who stands has a code. -/
theorem cnt_pos (n : Nat) (ps : List Nat) (p : Nat) (hp : p ∈ ps) (hn : p < n) : oAt (cntL n ps) p ≠ 0 := by
  unfold oAt
  rw [cntL_at n ps p hn]
  have := List.count_pos_iff.2 hp
  omega
theorem cnt_code (n : Nat) (ps : List Nat) (hps : ∀ p ∈ ps, p < n) (h24 : ∀ x ∈ hl (cntL n ps), x ≤ 24) : ∀ p ∈ ps, p < (hl (cntL n ps)).length ∧ codOf (words (hl (cntL n ps))) p ≠ [] := by
  intro p hp
  have hpn := hps p hp
  have hlen : p < (hl (cntL n ps)).length := by rw [hl_length, cntL_length]; exact hpn
  refine ⟨hlen, fun he => ?_⟩
  have h1 := codOf_len (words_ok (hl (cntL n ps)) h24) hlen
  rw [he] at h1
  have h2 := (hl_pos (cntL n ps) p (oAt (cntL n ps) p) ((hl (cntL n ps))[p]?.getD 0) (by
    unfold oAt
    rw [List.getElem?_eq_getElem (by rw [cntL_length]; exact hpn)]; rfl) (by rw [List.getElem?_eq_getElem hlen]; rfl)).1 (cnt_pos n ps p hp hpn)
  exact h2 h1.symm
end

section
set_option maxRecDepth 100000
set_option linter.unusedVariables false
open Go.RowKit Go.Shelf Go.Sort

/-- Lengths, bits and an error come back. -/
def PakP (w : World) (l : List Nat) (b : List Bool) (err : Int) (e : Ending) (w' : World) : Prop :=
  ∃ (v : Value) (A : Option Addr) (c : Nat), e = .returned (.tuple #[v, .agg #[.int .i64 (b.length : Int), .slice A (pack b).length c], .int .i64 err]) ∧ w'.ownsRow w.heap.size 3 1 v l.length (zc (ns l)) ∧ Rd w' w'.heap.size A (pack b) ∧ Below w.heap.size w w'
/-- The place of the bits that are handed back, as it was laid and as it is behind calls. -/
theorem res_laid (w V : World) (h : Below (w.alloc (.cells #[.int .i64 0, .slice none 0 0] 25)).heap.size (w.alloc (.cells #[.int .i64 0, .slice none 0 0] 25)) V) :
    Below w.heap.size w V ∧ V.heap[w.heap.size]? = some (.cells #[.int .i64 0, .slice none 0 0] 25 (0, 0)) := by
  have h1 : (w.alloc (.cells #[.int .i64 0, .slice none 0 0] 25)).heap.size = w.heap.size + 1 := World.size_alloc _ _
  refine ⟨(one_below w _).trans (h.mono (by omega)), ?_⟩
  rw [h.block _ (by omega)]; exact World.alloc_heap_new w _
theorem pk_err {w V : World} (k : Int) (hb : Below w.heap.size w V) : PakP w [] [] k (.returned (.tuple #[.slice none 0 0, .agg #[.int .i64 0, .slice none 0 0], .int .i64 k])) ((V.setCell ⟨w.heap.size, 0, none⟩ (.int .i64 0)).setCell ⟨w.heap.size, 1, none⟩ (.slice none 0 0)) :=
  ⟨.slice none 0 0, none, 0, by simp [pack_nil], ⟨rfl, .inl ⟨rfl, rfl⟩⟩, .inl (by simp [pack_nil]), (hb.setCell (p := ⟨w.heap.size, 0, none⟩) (Nat.le_refl _) _).setCell (p := ⟨w.heap.size, 1, none⟩) (Nat.le_refl _) _⟩
theorem res_cells {w V : World} (h : V.heap[w.heap.size]? = some (.cells #[.int .i64 0, .slice none 0 0] 25 (0, 0))) (l : Int) (v : Value) :
    (V.cell? ⟨w.heap.size, 0, none⟩ = some (.int .i64 0) ∧ V.cell? ⟨w.heap.size, 1, none⟩ = some (.slice none 0 0) ∧ V.frozen? ⟨w.heap.size, 0, none⟩ = false ∧ V.frozen? ⟨w.heap.size, 1, none⟩ = false) ∧
    (((V.setCell ⟨w.heap.size, 0, none⟩ (.int .i64 l)).setCell ⟨w.heap.size, 1, none⟩ v).cell? ⟨w.heap.size, 0, none⟩ = some (.int .i64 l) ∧ ((V.setCell ⟨w.heap.size, 0, none⟩ (.int .i64 l)).setCell ⟨w.heap.size, 1, none⟩ v).cell? ⟨w.heap.size, 1, none⟩ = some v) := by
  have e0 : (V.setCell ⟨w.heap.size, 0, none⟩ (.int .i64 l)).heap[w.heap.size]? = some (.cells #[.int .i64 l, .slice none 0 0] 25 (0, 0)) := by rw [heap_set_same _ _ _ _ _ _ h]; rfl
  have e1 : ((V.setCell ⟨w.heap.size, 0, none⟩ (.int .i64 l)).setCell ⟨w.heap.size, 1, none⟩ v).heap[w.heap.size]? = some (.cells #[.int .i64 l, v] 25 (0, 0)) := by rw [heap_set_same _ _ _ _ _ _ e0]; rfl
  exact ⟨⟨(cell_at h 0).trans rfl, (cell_at h 1).trans rfl, frz_at h 0, frz_at h 1⟩, (cell_at e1 0).trans rfl, (cell_at e1 1).trans rfl⟩

theorem pak_drew {w W : World} {l : List Nat} {b : List Bool} {k : Int} {e : Ending} (h : PakP w l b k e W) : PakP w l b k e W.drew := by
  obtain ⟨v, A, c, h1, h2, h3, h4⟩ := h
  exact ⟨v, A, c, h1, h2, h3, h4.drew⟩
set_option maxHeartbeats 2000000 in
theorem pack_c (n c : Nat) (A : Option Addr) (m k : Int) (hk : k ≠ 0) (w : World) (HC : Hid (∀ V, Below w.heap.size w V → Calls Try.prog 49 #[.slice A n c, .int .i64 m] V (CntE V k))) :
    Calls Try.prog 18 #[.slice A n c, .int .i64 m] w (PakP w [] [] k) := by
  have t0 : (k != 0) = true := by simpa using hk
  clear hk
  go_enter Try.func18, Try.ntmps18
  go_wp2_with fail
  refine (HC.out _ (one_below w _)).mono ?_
  rintro e w1 ⟨rfl, b1⟩
  obtain ⟨h1, h2⟩ := res_laid w w1 b1
  obtain ⟨⟨d0, d1, f0, f1⟩, r0, r1⟩ := res_cells h2 0 (.slice none 0 0)
  have HB := Lib.hid h1
  clear b1 h1 h2
  go_wp2
  exact bodyPost_ret (v := .tuple #[.slice none 0 0, .agg #[.int .i64 0, .slice none 0 0], .int .i64 k]) (by simp [results, Try.results18, go_sem, r0, r1]) rfl (pk_err k HB.out)
set_option maxHeartbeats 2000000 in
theorem pack_l (n c : Nat) (A : Option Addr) (m k : Int) (hk : k ≠ 0) (j : Nat) (os : List Nat) (w : World)
    (HC : Hid (∀ V, Below w.heap.size w V → Calls Try.prog 49 #[.slice A n c, .int .i64 m] V fun e w' => ∃ g, e = .returned (.tuple #[.slice (some ⟨g, 0, none⟩) j j, .int .i64 0]) ∧ w'.ownsRow V.heap.size 3 1 (.slice (some ⟨g, 0, none⟩) j j) j (zc (ns os)) ∧ Below V.heap.size V w'))
    (HL : Hid (∀ g V, RdV V V.heap.size (some ⟨g, 0, none⟩) (zc (ns os)) → Calls Try.prog 16 #[.slice (some ⟨g, 0, none⟩) j j] V (GotZ V ([], k)))) :
    Calls Try.prog 18 #[.slice A n c, .int .i64 m] w (PakP w [] [] k) := by
  have t0 : (k != 0) = true := by simpa using hk
  clear hk
  go_enter Try.func18, Try.ntmps18
  go_wp2_with fail
  refine (HC.out _ (one_below w _)).mono ?_
  rintro e w1 ⟨g, rfl, o1, b1⟩
  have HR := Lib.hid (own_rdv o1)
  have HB1 := Lib.hid b1
  clear o1 b1
  go_wp2_with fail
  refine (HL.out g w1 HR.out).mono ?_
  rintro e w2 ⟨v, rfl, o2, b2⟩
  obtain ⟨h1, h2⟩ := res_laid w w2 (HB1.out.trans (b2.mono HB1.out.size))
  obtain ⟨⟨d0, d1, f0, f1⟩, r0, r1⟩ := res_cells h2 0 (.slice none 0 0)
  have HB := Lib.hid h1
  clear b2 h1 h2 o2
  go_wp2
  exact bodyPost_ret (v := .tuple #[.slice none 0 0, .agg #[.int .i64 0, .slice none 0 0], .int .i64 k]) (by simp [results, Try.results18, go_sem, r0, r1]) rfl (pk_err k HB.out)
set_option maxHeartbeats 4000000 in
theorem pack_g (n c : Nat) (A : Option Addr) (m : Int) (j : Nat) (os l : List Nat) (b : List Bool) (w : World)
    (HC : Hid (∀ V, Below w.heap.size w V → Calls Try.prog 49 #[.slice A n c, .int .i64 m] V fun e w' => ∃ g, e = .returned (.tuple #[.slice (some ⟨g, 0, none⟩) j j, .int .i64 0]) ∧ w'.ownsRow V.heap.size 3 1 (.slice (some ⟨g, 0, none⟩) j j) j (zc (ns os)) ∧ Below V.heap.size V w'))
    (HL : Hid (∀ g V, RdV V V.heap.size (some ⟨g, 0, none⟩) (zc (ns os)) → Calls Try.prog 16 #[.slice (some ⟨g, 0, none⟩) j j] V (GotZ V (l, 0))))
    (HE : Hid (∀ A1 c1 V, RdV V V.heap.size A1 (zc (ns l)) → Below w.heap.size w V → Calls Try.prog 50 #[.slice A n c, .slice A1 l.length c1] V (Gave V b 0))) :
    Calls Try.prog 18 #[.slice A n c, .int .i64 m] w (PakP w l b 0) := by
  go_enter Try.func18, Try.ntmps18
  go_wp2_with fail
  refine (HC.out _ (one_below w _)).mono ?_
  rintro e w1 ⟨g, rfl, o1, b1⟩
  have HR := Lib.hid (own_rdv o1)
  have HB1 := Lib.hid b1
  clear o1 b1
  go_wp2_with fail
  refine (HL.out g w1 HR.out).mono ?_
  rintro e w2 ⟨v, rfl, o2, b2⟩
  obtain ⟨A2, c2, rfl⟩ := own_slice3 o2
  have HB2 := Lib.hid (HB1.out.trans (b2.mono HB1.out.size))
  have HO2 := Lib.hid o2
  have HR2 := Lib.hid (own_rdv o2)
  have HSz : Hid (w.heap.size ≤ w1.heap.size) := by have := HB1.out.size; show _ ≤ _; simp at this; omega
  have HL2 : Hid (Below w.heap.size w w2) := (res_laid w w2 HB2.out).1
  clear b2 o2
  simp only at HO2 HR2
  go_wp2_with fail
  refine (HE.out A2 c2 w2 HR2.out HL2.out).mono ?_
  rintro e w3 ⟨A3, c3, rfl, r3, b3⟩
  have HR3 := Lib.hid r3
  have HB3 := Lib.hid (HB2.out.trans (b3.mono HB2.out.size))
  have HO3 := Lib.hid (own_below HO2.out b3)
  clear r3 b3
  obtain ⟨w4, hw4⟩ : ∃ w4, w3.alloc (.cells #[.int .i64 (b.length : Int), .slice A3 (pack b).length c3] 25) = w4 := ⟨_, rfl⟩
  have hb4 : Below (w.alloc (.cells #[.int .i64 0, .slice none 0 0] 25)).heap.size (w.alloc (.cells #[.int .i64 0, .slice none 0 0] 25)) w4 := by subst hw4; exact HB3.out.alloc HB3.out.size _
  obtain ⟨h1, h2⟩ := res_laid w w4 hb4
  have hx4 : w4.heap[w3.heap.size]? = some (.cells #[.int .i64 (b.length : Int), .slice A3 (pack b).length c3] 25 (0, 0)) := by subst hw4; exact World.alloc_heap_new w3 _
  have x0 : w4.cell? ⟨w3.heap.size, 0, none⟩ = some (.int .i64 (b.length : Int)) := (cell_at hx4 0).trans rfl
  have x1 : w4.cell? ⟨w3.heap.size, 1, none⟩ = some (.slice A3 (pack b).length c3) := (cell_at hx4 1).trans rfl
  obtain ⟨⟨d0, d1, f0, f1⟩, r0, r1⟩ := res_cells h2 (b.length : Int) (.slice A3 (pack b).length c3)
  have HF : Hid (PakP w l b 0 (.returned (.tuple #[.slice A2 l.length c2, .agg #[.int .i64 (b.length : Int), .slice A3 (pack b).length c3], .int .i64 0])) ((w4.setCell ⟨w.heap.size, 0, none⟩ (.int .i64 (b.length : Int))).setCell ⟨w.heap.size, 1, none⟩ (.slice A3 (pack b).length c3))) := by
    have e0 : (w4.setCell ⟨w.heap.size, 0, none⟩ (.int .i64 (b.length : Int))).heap[w.heap.size]? = some (.cells #[.int .i64 (b.length : Int), .slice none 0 0] 25 (0, 0)) := by rw [heap_set_same _ _ _ _ _ _ h2]; rfl
    have hR4 : Rd w4 w4.heap.size A3 (pack b) := by subst hw4; exact HR3.out.on (one_below w3 _)
    have r8 := (hR4.setK (i := 0) (.int .i64 (b.length : Int)) h2).setK (i := 1) (.slice A3 (pack b).length c3) e0
    have hsz : ((w4.setCell ⟨w.heap.size, 0, none⟩ (.int .i64 (b.length : Int))).setCell ⟨w.heap.size, 1, none⟩ (.slice A3 (pack b).length c3)).heap.size = w4.heap.size := by simp [World.setCell]
    refine ⟨.slice A2 l.length c2, A3, c3, rfl, own_base (own_sameC HO3.out fun g hg hv => ?_) HSz.out, by rw [hsz]; exact r8, (h1.setCell (p := ⟨w.heap.size, 0, none⟩) (Nat.le_refl _) _).setCell (p := ⟨w.heap.size, 1, none⟩) (Nat.le_refl _) _⟩
    have hlt := (HO3.out.lt g hv).2
    have hne : g ≠ w.heap.size := by
      have := HB1.out.size
      have e1 : (w.alloc (.cells #[.int .i64 0, .slice none 0 0] 25)).heap.size = w.heap.size + 1 := World.size_alloc _ _
      omega
    rw [Below.heap_setCell _ _ _ _ hne, Below.heap_setCell _ _ _ _ hne]
    subst hw4
    exact Below.heap_alloc _ _ _ hlt
  have q0 : ((w4.setCell ⟨w.heap.size, 0, none⟩ (.int .i64 (b.length : Int))).setCell ⟨w.heap.size, 1, none⟩ (.slice A3 (pack b).length c3)).drew.cell? ⟨w.heap.size, 0, none⟩ = some (.int .i64 (b.length : Int)) := r0
  have q1 : ((w4.setCell ⟨w.heap.size, 0, none⟩ (.int .i64 (b.length : Int))).setCell ⟨w.heap.size, 1, none⟩ (.slice A3 (pack b).length c3)).drew.cell? ⟨w.heap.size, 1, none⟩ = some (.slice A3 (pack b).length c3) := r1
  clear h1 h2 hb4 hx4
  generalize b.length = lb at *
  generalize pack b = pb at *
  generalize l.length = ll at *
  go_wp2_with fail
  try rw [hw4]
  clear hw4
  go_region
  all_goals (
    go_wp2
    exact bodyPost_ret (v := .tuple #[.slice A2 ll c2, .agg #[.int .i64 (lb : Int), .slice A3 pb.length c3], .int .i64 0]) (by simp [results, Try.results18, go_sem, q0, q1]) rfl (pak_drew HF.out))
/-- What Pack answers: lengths, bits, an error. -/
def pkA (xs : List Int) (m : Int) : List Nat × List Bool × Int :=
  if cnE xs m ≠ 0 then ([], [], cnE xs m) else if (lnA (cntL m.toNat (xs.map Int.toNat))).2 ≠ 0 then ([], [], (lnA (cntL m.toNat (xs.map Int.toNat))).2) else
    ((lnA (cntL m.toNat (xs.map Int.toNat))).1, cat (lnA (cntL m.toNat (xs.map Int.toNat))).1 (xs.map Int.toNat), 0)
theorem lnA_zero (os : List Nat) (h : (lnA os).2 = 0) : lnA os = (hl os, 0) ∧ ∀ x ∈ hl os, x ≤ 24 := by
  unfold lnA at h ⊢
  by_cases h1 : eachE d8 (ns (hl os)) = 0
  · rw [if_pos h1]
    refine ⟨rfl, fun x hx => ?_⟩
    have := (eachE_zero d8 (ns (hl os))).1 h1 (x : Int) (List.mem_map.2 ⟨x, hx, rfl⟩)
    unfold d8 at this
    split at this <;> omega
  · rw [if_neg h1] at h; simp at h
theorem lnA_err (os : List Nat) (h : (lnA os).2 ≠ 0) : lnA os = ([], (lnA os).2) := by
  unfold lnA at h ⊢
  by_cases h1 : eachE d8 (ns (hl os)) = 0
  · rw [if_pos h1] at h; exact absurd rfl h
  · rw [if_neg h1]
theorem cntL_le (k : Nat) (ss : List Nat) (h : ss.length ≤ 1000) : ∀ x ∈ cntL k ss, x ≤ 1048576 := fun x hx => by
  unfold cntL at hx
  obtain ⟨s, _, rfl⟩ := List.mem_map.1 hx
  have := List.count_le_length (a := s) (l := ss)
  omega
theorem packs_any (xs : List Int) (n : Nat) (hn : xs.length = n) (hn2 : n ≤ 9223372036854775807) (m : Int) (A : Option Addr) (c : Nat) (w : World) (h : RdV w w.heap.size A (zc xs)) :
    Calls Try.prog 18 #[.slice A n c, .int .i64 m] w (PakP w (pkA xs m).1 (pkA xs m).2.1 (pkA xs m).2.2) := by
  by_cases h0 : cnE xs m = 0
  · obtain ⟨k, ss, rfl, hk, rfl, hss, hlt⟩ := cnE_zero xs m h0
    rw [ns_length] at hn
    have hC : ∀ V, Below w.heap.size w V → _ := fun V hV => count_ok ss n hn (by omega) k hk hlt A c V (h.on hV)
    have hL : ∀ g V, RdV V V.heap.size (some ⟨g, 0, none⟩) (zc (ns (cntL k ss))) → Calls Try.prog 16 #[.slice (some ⟨g, 0, none⟩) k k] V (GotZ V (lnA (cntL k ss))) := fun g V hV => len_ok (cntL k ss) k (cntL_length k ss) hk (cntL_le k ss hss) (some ⟨g, 0, none⟩) k V hV
    unfold pkA
    rw [if_neg (by simpa using h0), ns_nat, Int.toNat_natCast]
    by_cases h1 : (lnA (cntL k ss)).2 = 0
    · obtain ⟨e1, h24⟩ := lnA_zero _ h1
      rw [if_neg (by simpa using h1), e1]
      rw [e1] at hL
      have hhl : (hl (cntL k ss)).length = k := by rw [hl_length, cntL_length]
      refine pack_g n c A (k : Int) k (cntL k ss) (hl (cntL k ss)) (cat (hl (cntL k ss)) ss) w (Lib.hid hC) (Lib.hid hL) (Lib.hid fun A1 c1 V hR hV => ?_)
      refine encode_ok (hl (cntL k ss)) _ rfl (by omega) h24 (hl_room _ h24) A1 c1 ss n hn (by omega) (fun s hs => by rw [hhl]; exact hlt s hs) ?_ A c V hR (h.on hV)
      rw [cat_costs _ h24 ss (fun p hp => by rw [hhl]; exact hlt p hp), hhl]
      have := pack_fits k hk ss hlt hss
      omega
    · rw [if_pos (by simpa using h1)]
      rw [lnA_err _ h1] at hL
      exact pack_l n c A (k : Int) _ h1 k (cntL k ss) w (Lib.hid hC) (Lib.hid hL)
  · unfold pkA
    rw [if_pos (by simpa using h0)]
    exact pack_c n c A m _ h0 w (Lib.hid fun V hV => count_e xs n hn hn2 m h0 A c V (h.on hV))
end

section
set_option maxRecDepth 100000
set_option linter.unusedVariables false
open Go.RowKit Go.Shelf

set_option maxHeartbeats 1000000 in
theorem refchk_any (xs : List Int) (n : Nat) (hn : xs.length = n) (hn2 : n ≤ 9223372036854775807) (A : Option Addr) (c : Nat) (w : World) (h : RdV w w.heap.size A (zc xs)) :
    Calls Try.prog 56 #[.slice A n c] w fun e w' => e = .returned (.int .i64 (kchk xs)) ∧ Below w.heap.size w w' := by
  unfold kchk
  rw [hn]
  by_cases h64 : 64 < n
  · rw [if_pos h64]
    have t0 : decide ((64 : Int) < (n : Int)) = true := by simp; omega
    have t1 : decide (64 < n) = true := by simpa using h64
    go_enter Try.func56, Try.ntmps56
    go_wp2
    go_ret
    exact ⟨rfl, Below.refl _ _⟩
  · rw [if_neg h64]
    have HX := Lib.hid h; have HN := Lib.hid hn
    have t0 : decide ((64 : Int) < (n : Int)) = false := by simp; omega
    have t1 : decide (64 < n) = false := by simpa using h64
    have hn3 : n ≤ 64 := by omega
    clear h hn
    go_enter Try.func56, Try.ntmps56
    go_wp2
    clear t0 t1
    go_loopw [3] (fun p wr => EchRel (rg 24) xs w p wr) (fun p _ => n - (intOf p).toNat)
    case atStart => exact ⟨0, Nat.zero_le _, rfl, fun j hj => absurd hj (Nat.not_lt_zero _), Below.refl _ _⟩
    case round =>
      obtain ⟨i, hi, rfl, ht, hbel⟩ := hrel
      rw [HN.out] at hi
      by_cases hlt : i < n
      · have hin : i < xs.length := by rw [HN.out]; exact hlt
        obtain ⟨b, off, rfl, hb, hc1⟩ := (HX.out.on hbel).at_ (zc_get xs i hin)
        have hat := eachE_at (rg 24) xs i hin ht
        have HT := Lib.hid ht
        have HB := Lib.hid hbel
        have t1 : decide ((i : Int) < (n : Int)) = true := by simp; omega
        have t2 : decide (i < n) = true := by simpa using hlt
        have t3 : (0 : Int) ≤ (i : Int) := by omega
        have t4 : (i : Int) < (n : Int) := by omega
        obtain ⟨x, HED⟩ : ∃ x, Hid (xs[i]?.getD default = x) := ⟨_, rfl⟩
        rw [show xs[i]?.getD 0 = x from HED.out] at hc1
        rw [HED.out] at hat
        by_cases hr1 : 0 ≤ x ∧ x ≤ 24
        · have HF : Hid (rg 24 x = 0) := (rg_zero 24 x).2 hr1
          have HBt := Lib.hid (between_yes x 0 24 hr1)
          clear hat ht hbel hr1
          go_wp2_with fail
          refine (HBt.out _).mono ?_
          rintro e _ ⟨rfl, rfl⟩
          go_wp2
          go_roundw
          case rel => exact ⟨i + 1, by rw [HN.out]; omega, by go_num, fun j hj => by
            rcases Nat.lt_or_ge j i with h | h
            · exact HT.out j h
            · obtain rfl : j = i := by omega
              rw [HED.out]; exact HF.out, HB.out⟩
          case measure => simp [intOf]; omega
        · have hf : rg 24 x = 3 := by rcases rg_or 24 x with q | q; (exact absurd ((rg_zero 24 x).1 q) hr1); exact q
          have HE := Lib.hid (hat (by rw [hf]; decide))
          rw [hf] at HE
          have HBt := Lib.hid (between_no x 0 24 hr1)
          clear hat ht hbel hr1 hf
          go_wp2_with fail
          refine (HBt.out _).mono ?_
          rintro e _ ⟨rfl, rfl⟩
          go_wp2
          go_ret
          exact ⟨ret_i64 HE.out.symm, HB.out⟩
      · have HT : Hid (eachE (rg 24) xs = 0) := eachE_all (rg 24) xs (fun j hj => ht j (by rw [HN.out] at hj; omega))
        have HB := Lib.hid hbel
        have t1 : decide ((i : Int) < (n : Int)) = false := by simp; omega
        have t2 : decide (i < n) = false := by simpa using hlt
        clear ht hbel
        go_wp2
        go_ret
        exact ⟨ret_i64 HT.out.symm, HB.out⟩

/-- What lengths up to n take of the room at n. -/
def tkU (n : Nat) : List Nat → Nat
  | [] => 0
  | x :: t => (if x = 0 ∨ n < x then 0 else 2 ^ (n - x)) + tkU n t
theorem tkU_succ (n : Nat) : ∀ l : List Nat, tkU (n + 1) l = 2 * tkU n l + l.count (n + 1)
  | [] => by simp [tkU]
  | x :: t => by
    have ih := tkU_succ n t
    unfold tkU
    rw [ih, List.count_cons]
    by_cases h0 : x = 0
    · subst h0; simp <;> omega
    · by_cases h1 : x ≤ n
      · rw [if_neg (by omega), if_neg (by omega), if_neg (by simp; omega), show n + 1 - x = (n - x) + 1 by omega, Nat.pow_succ]; omega
      · by_cases h2 : x = n + 1
        · subst h2
          rw [if_neg (by omega), if_pos (by omega), if_pos (by simp)]
          simp <;> omega
        · rw [if_pos (by omega), if_pos (by omega), if_neg (by simp; omega)]; omega
theorem tkU_zero : ∀ l : List Nat, tkU 0 l = 0
  | [] => rfl
  | x :: t => by unfold tkU; rw [if_pos (by omega), tkU_zero t]
theorem tkU_24 : ∀ l : List Nat, (∀ x ∈ l, x ≤ 24) → tkU 24 l = tkn l
  | [], _ => rfl
  | x :: t, h => by
    have h1 := h x (by simp)
    unfold tkU tkn tk
    rw [tkU_24 t (fun y hy => h y (by simp [hy]))]
    by_cases h0 : x = 0
    · subst h0; simp
    · rw [if_neg (by omega), if_neg h0]
theorem tkU_bd (n : Nat) (hn : n ≤ 24) : ∀ l : List Nat, tkU n l ≤ l.length * 8388608
  | [] => by simp [tkU]
  | x :: t => by
    have ih := tkU_bd n hn t
    unfold tkU
    have : (if x = 0 ∨ n < x then 0 else 2 ^ (n - x)) ≤ 8388608 := by
      by_cases h : x = 0 ∨ n < x
      · rw [if_pos h]; omega
      · rw [if_neg h]; exact Nat.le_trans (Nat.pow_le_pow_right (by omega) (show n - x ≤ 23 by omega)) (by decide)
    simp only [List.length_cons]; omega
/-- The room that is left at n. -/
def lfU (n : Nat) (l : List Nat) : Int := ((2 ^ n : Nat) : Int) - (tkU n l : Int)
theorem lfU_succ (n : Nat) (l : List Nat) : 2 * lfU n l - (l.count (n + 1) : Int) = lfU (n + 1) l := by
  unfold lfU; rw [tkU_succ, Nat.pow_succ]; omega
theorem lfU_bd (n : Nat) (hn : n ≤ 24) (l : List Nat) (hl : l.length ≤ 64) : -1000000000 ≤ lfU n l ∧ lfU n l ≤ 1000000000 := by
  have h1 := tkU_bd n hn l
  have h2 : (2 : Nat) ^ n ≤ 16777216 := Nat.le_trans (Nat.pow_le_pow_right (by omega) hn) (by decide)
  unfold lfU
  generalize (2 : Nat) ^ n = q at *
  omega
def KrO (l : List Nat) (w : World) (v p : Value) (wr : World) : Prop :=
  ∃ n : Nat, 1 ≤ n ∧ n ≤ 25 ∧ p = .int .i64 (n : Int) ∧ v = .int .i64 (lfU (n - 1) l) ∧ Below w.heap.size w wr
def KrI (l : List Nat) (n : Nat) (L : Int) (w : World) (v p : Value) (wr : World) : Prop :=
  ∃ s : Nat, s ≤ l.length ∧ p = .int .i64 (s : Int) ∧ v = .int .i64 (2 * L - ((l.take s).count n : Int)) ∧ Below w.heap.size w wr
set_option maxHeartbeats 1000000 in
theorem refroom_ok (l : List Nat) (n : Nat) (hn : l.length = n) (h64 : n ≤ 64) (h24 : ∀ x ∈ l, x ≤ 24) (A : Option Addr) (c : Nat) (w : World) (h : RdV w w.heap.size A (zc (ns l))) :
    Calls Try.prog 92 #[.slice A n c] w fun e w' => e = .returned (.int .i64 (16777216 - (tkn l : Int))) ∧ Below w.heap.size w w' := by
  have HX := Lib.hid h; have HN := Lib.hid hn
  have HE : Hid (lfU 24 l = 16777216 - (tkn l : Int)) := by show _ = _; unfold lfU; rw [tkU_24 l h24]; rfl
  have HL0 : Hid (lfU 0 l = 1) := by show _ = _; unfold lfU; rw [tkU_zero]; rfl
  have HBd : Hid (∀ n, n ≤ 24 → -1000000000 ≤ lfU n l ∧ lfU n l ≤ 1000000000) := fun n h => lfU_bd n h l (by omega)
  have HSu : Hid (∀ n, 1 ≤ n → 2 * lfU (n - 1) l - (l.count n : Int) = lfU n l) := fun n h => by
    have := lfU_succ (n - 1) l
    rwa [Nat.sub_add_cancel h] at this
  clear h hn h24
  go_enter Try.func92, Try.ntmps92
  go_wp2
  go_loopw [3, 4] (fun v p wr => KrO l w v p wr) (fun _ p _ => 25 - (intOf p).toNat)
  case atStart => exact ⟨1, Nat.le_refl _, by decide, rfl, by rw [show 1 - 1 = 0 from rfl, HL0.out], Below.refl _ _⟩
  case round =>
    obtain ⟨k, hk1, hk2, rfl, rfl, hbel⟩ := hrel
    have HB := Lib.hid hbel
    by_cases hk : k ≤ 24
    · have hbd := HBd.out (k - 1) (by omega)
      have HS := Lib.hid (HSu.out k hk1)
      obtain ⟨L, hL⟩ : ∃ L, lfU (k - 1) l = L := ⟨_, rfl⟩
      rw [hL] at hbd HS ⊢
      clear hL hbel
      have t1 : decide ((k : Int) ≤ 24) = true := by simp; omega
      have t2 : decide (k ≤ 24) = true := by simpa using hk
      have tw : IntKind.i64.wrap (2 * L) = 2 * L := IntWalk.i64_in _ (by omega)
      go_wp2
      go_loopw [3, 5] (fun v p w' => KrI l k L w v p w') (fun _ p _ => n - (intOf p).toNat)
      case atStart => exact ⟨0, Nat.zero_le _, rfl, by simp, HB.out⟩
      case round =>
        obtain ⟨s, hs, rfl, rfl, hbel⟩ := hrel
        rw [HN.out] at hs
        have hct : (l.take s).count k ≤ 64 := Nat.le_trans List.count_le_length (by rw [List.length_take]; omega)
        have HB2 := Lib.hid hbel
        by_cases hlt : s < n
        · have hin : s < l.length := by rw [HN.out]; exact hlt
          obtain ⟨b, off, rfl, hb, hc1⟩ := (HX.out.on hbel).at_ (ns_get l s hin)
          have hcs : (l.take (s + 1)).count k = (l.take s).count k + if l[s]?.getD 0 = k then 1 else 0 := by
            rw [take_snoc l s hin, List.count_append, List.count_singleton]; simp
          generalize l[s]?.getD 0 = x at *
          generalize (l.take s).count k = C at *
          have t3 : decide ((s : Int) < (n : Int)) = true := by simp; omega
          have t4 : decide (s < n) = true := by simpa using hlt
          have t5 : (0 : Int) ≤ (s : Int) := by omega
          have t6 : (s : Int) < (n : Int) := by omega
          by_cases hx : x = k
          · rw [if_pos hx] at hcs
            have HC := Lib.hid hcs
            have t7 : ((x : Int) == (k : Int)) = true := by rw [hx]; simp
            have tw2 : IntKind.i64.wrap (2 * L - (C : Int) - 1) = 2 * L - (C : Int) - 1 := IntWalk.i64_in _ (by omega)
            clear hcs hbel hx
            go_wp2
            go_roundw
            case rel => exact ⟨s + 1, by rw [HN.out]; omega, by go_num, by rw [HC.out, show ((C + 1 : Nat) : Int) = (C : Int) + 1 by omega, show 2 * L - (C : Int) - 1 = 2 * L - ((C : Int) + 1) by omega], HB2.out⟩
            case measure => simp [intOf]; omega
          · rw [if_neg hx] at hcs
            have HC := Lib.hid hcs
            have t7 : ((x : Int) == (k : Int)) = false := by simp; omega
            clear hcs hbel hx
            go_wp2
            go_roundw
            case rel => exact ⟨s + 1, by rw [HN.out]; omega, by go_num, by rw [HC.out]; rfl, HB2.out⟩
            case measure => simp [intOf]; omega
        · have HT : Hid (l.take s = l) := List.take_of_length_le (by rw [HN.out]; omega)
          have t3 : decide ((s : Int) < (n : Int)) = false := by simp; omega
          have t4 : decide (s < n) = false := by simpa using hlt
          clear hbel hct
          go_wp2
          go_roundw
          case rel => exact ⟨k + 1, by omega, by omega, by go_num, by rw [HT.out, HS.out, Nat.add_sub_cancel], HB2.out⟩
          case measure => simp [intOf]; omega
    · obtain rfl : k = 25 := by omega
      clear hbel
      go_wp2
      go_ret
      exact ⟨by rw [← HE.out]; rfl, HB.out⟩
end

section
set_option maxRecDepth 100000
set_option linter.unusedVariables false
open Go.RowKit Go.Shelf

/-- At each round's head: so many bytes are alike. -/
def SameRelI (w : World) (xs ys : List Int) (p : Value) (wr : World) : Prop := ∃ i : Nat, i ≤ xs.length ∧ p = .int .i64 (i : Int) ∧ xs.take i = ys.take i ∧ Below w.heap.size w wr
theorem take_succ_sameI (xs ys : List Int) (i : Nat) (h1 : i < xs.length) (h2 : i < ys.length) (h : xs.take i = ys.take i) (he : xs[i]?.getD 0 = ys[i]?.getD 0) : xs.take (i + 1) = ys.take (i + 1) := by
  rw [List.take_succ_eq_append_getElem h1, List.take_succ_eq_append_getElem h2, h]
  rw [List.getElem?_eq_getElem h1, List.getElem?_eq_getElem h2] at he
  simp only [Option.getD_some] at he
  rw [he]
theorem ne_of_atI (xs ys : List Int) (i : Nat) (he : xs[i]?.getD 0 ≠ ys[i]?.getD 0) : ¬ xs = ys := fun h => he (by rw [h])
set_option maxHeartbeats 400000 in
theorem sameI_len (w : World) (A B : Option Addr) (n m c d : Nat) (hl : n ≠ m) :
    Calls Try.prog 25 #[.slice A n c, .slice B m d] w fun e w' => e = .returned (.bool false) ∧ Below w.heap.size w w' := by
  have h1 : ((n : Int) != (m : Int)) = true := by simp; omega
  clear hl
  go_enter Try.func25, Try.ntmps25
  go_wp2
  go_ret
  exact ⟨rfl, Below.refl _ _⟩
set_option maxHeartbeats 1000000 in
theorem same_ints (w : World) (A B : Option Addr) (c d : Nat) (xs ys : List Int) (n : Nat) (hn : xs.length = n) (hm : ys.length = n) (h2 : n ≤ 9223372036854775807) (hA : RdV w w.heap.size A (zc xs)) (hB : RdV w w.heap.size B (zc ys)) :
    Calls Try.prog 25 #[.slice A n c, .slice B n d] w fun e w' => e = .returned (.bool (decide (xs = ys))) ∧ Below w.heap.size w w' := by
  have HA := Lib.hid hA; clear hA
  have HB := Lib.hid hB; clear hB
  have HN := Lib.hid hn; clear hn
  have HM := Lib.hid hm; clear hm
  have t0 : ((n : Int) != (n : Int)) = false := by simp
  go_enter Try.func25, Try.ntmps25
  go_wp2
  go_loopw [5] (fun p wr => SameRelI w xs ys p wr) (fun p _ => n - (intOf p).toNat)
  case atStart => exact ⟨0, Nat.zero_le _, rfl, rfl, Below.refl _ _⟩
  case round =>
    obtain ⟨i, hi, hp, ht, hb⟩ := hrel
    subst hp
    rw [HN.out] at hi
    by_cases hlt : i < n
    · obtain ⟨b1, o1, rfl, hb1, hc1⟩ := HA.out.at_ (zc_get xs i (by rw [HN.out]; exact hlt))
      obtain ⟨b2, o2, rfl, hb2, hc2⟩ := HB.out.at_ (zc_get ys i (by rw [HM.out]; exact hlt))
      have e1 := (hb.cell (p := ⟨b1, o1 + i, none⟩) hb1).trans hc1
      have e2 := (hb.cell (p := ⟨b2, o2 + i, none⟩) hb2).trans hc2
      have hstep := fun he => take_succ_sameI xs ys i (by rw [HN.out]; exact hlt) (by rw [HM.out]; exact hlt) ht he
      have hno := ne_of_atI xs ys i
      clear hc1 hc2 ht
      generalize xs[i]?.getD 0 = x at *
      generalize ys[i]?.getD 0 = y at *
      by_cases hxy : x = y
      · subst hxy
        have HT := Lib.hid (hstep rfl)
        clear hstep hno
        have t1 : (x != x) = false := by simp
        go_wp2
        go_region
        go_wp2
        go_roundw
        case rel => exact ⟨i + 1, by rw [HN.out]; omega, by go_num, HT.out, hb.drew⟩
        case measure => simp [intOf]; omega
      · have HT := Lib.hid (hno hxy)
        clear hstep hno
        have t1 : (x != y) = true := by simpa using hxy
        clear hxy
        go_wp2
        go_region
        go_wp2
        go_ret
        exact ⟨by rw [decide_eq_false HT.out]; rfl, hb.drew⟩
    · have HT : Hid (xs = ys) := by
        have e : i = n := by omega
        rw [e, List.take_of_length_le (by rw [HN.out]; omega), List.take_of_length_le (by rw [HM.out]; omega)] at ht
        exact ht
      clear ht
      go_wp2
      go_ret
      exact ⟨by rw [decide_eq_true HT.out]; rfl, hb⟩
theorem sameI_any (w : World) (A B : Option Addr) (c d : Nat) (xs ys : List Int) (h2 : xs.length ≤ 9223372036854775807) (hA : RdV w w.heap.size A (zc xs)) (hB : RdV w w.heap.size B (zc ys)) :
    Calls Try.prog 25 #[.slice A xs.length c, .slice B ys.length d] w fun e w' => e = .returned (.bool (decide (xs = ys))) ∧ Below w.heap.size w w' := by
  by_cases h : xs.length = ys.length
  · rw [← h]; exact same_ints w A B c d xs ys xs.length rfl h.symm h2 hA hB
  · have e : decide (xs = ys) = false := by rw [decide_eq_false_iff_not]; intro he; exact h (by rw [he])
    rw [e]
    exact sameI_len w A B _ _ c d h

/-- Bits as numbers. -/
def zi (l : List Bool) : List Int := l.map fun b => ((b.toNat : Nat) : Int)
theorem zi_ic (l : List Bool) : zc (zi l) = ic l := by simp [zc, zi, ic]
theorem zi_length (l : List Bool) : (zi l).length = l.length := by simp [zi]
theorem zi_take (l : List Bool) (k : Nat) : (zi l).take k = zi (l.take k) := by simp [zi, List.map_take]
theorem zi_inj {a b : List Bool} (h : zi a = zi b) : a = b := by
  have hi : ∀ x y : Bool, ((x.toNat : Nat) : Int) = ((y.toNat : Nat) : Int) → x = y := by decide
  exact (List.map_inj_right (fun x y => hi x y)).1 h
theorem RdV.takeK {w : World} {B : Nat} {A : Option Addr} {vs : List Value} (h : RdV w B A vs) (k : Nat) : RdV w B A (vs.take k) := by
  rcases h with h | ⟨b, off, e, hb, hc⟩
  · exact .inl (by rw [h]; simp)
  · refine .inr ⟨b, off, e, hb, fun i v hi => hc i v ?_⟩
    rw [List.getElem?_take] at hi
    split at hi
    · exact hi
    · cases hi
set_option maxHeartbeats 1000000 in
theorem starts_any (x y : List Bool) (n m : Nat) (hn : x.length = n) (hm : y.length = m) (hn2 : n ≤ 1000000000) (hm2 : m ≤ 1000000000) (A B : Option Addr) (c d : Nat) (hc : n ≤ c) (w : World) (hA : RdV w w.heap.size A (ic x)) (hB : RdV w w.heap.size B (ic y)) :
    Calls Try.prog 95 #[.slice A n c, .slice B m d] w fun e w' => e = .returned (.bool (decide (y <+: x))) ∧ Below w.heap.size w w' := by
  by_cases h : m ≤ n
  · have e1 : decide (y <+: x) = decide ((zi x).take m = zi y) := by
      rw [zi_take]
      congr 1
      apply propext
      constructor
      · intro hp
        have := List.prefix_iff_eq_take.1 hp
        rw [hm] at this
        rw [← this]
      · intro he
        have := zi_inj he
        rw [← this]; exact List.take_prefix _ _
    have HS := sameI_any w A B c d ((zi x).take m) (zi y) (by rw [List.length_take, zi_length]; omega) (by
      have := hA.takeK m
      rwa [← zi_ic, show (zc (zi x)).take m = zc ((zi x).take m) by simp [zc, List.map_take]] at this) (by rw [zi_ic]; exact hB)
    rw [zi_length, hm, List.length_take, zi_length, hn, Nat.min_eq_left h, ← e1] at HS
    generalize decide (y <+: x) = r at *
    clear e1 hA hB hn hm
    have HS2 := Lib.hid HS
    clear HS
    have t1 : decide ((m : Int) ≤ (n : Int)) = true := by simp; omega
    have t2 : decide (m ≤ n) = true := by simpa using h
    have t3 : (0 : Int) ≤ (m : Int) := by omega
    have t4 : (m : Int) ≤ (c : Int) := by omega
    have t5 : m ≤ c := by omega
    go_enter Try.func95, Try.ntmps95
    go_wp2_with fail
    refine HS2.out.mono ?_
    rintro e w1 ⟨rfl, B1⟩
    go_wp2
    go_ret
    exact ⟨rfl, B1⟩
  · have e1 : decide (y <+: x) = false := by
      rw [decide_eq_false_iff_not]
      intro hp
      have := hp.length_le
      omega
    rw [e1]
    have t1 : decide ((m : Int) ≤ (n : Int)) = false := by simp; omega
    have t2 : decide (m ≤ n) = false := by simpa using h
    clear e1 hA hB hn hm
    go_enter Try.func95, Try.ntmps95
    go_wp2
    go_ret
    exact ⟨rfl, Below.refl _ _⟩
end

section
set_option maxRecDepth 100000
set_option linter.unusedVariables false
open Go.RowKit Go.Shelf

theorem cost_k (A A2 : Option Addr) (n m c c2 : Nat) (k : Int) (hk : k ≠ 0) (w : World) (hC : Calls Try.prog 48 #[.slice A2 m c2] w fun e w' => e = .returned (.int .i64 k) ∧ Below w.heap.size w w') :
    Calls Try.prog 17 #[.slice A n c, .slice A2 m c2] w fun e w' => e = .returned (.tuple #[.int .i64 0, .int .i64 k]) ∧ Below w.heap.size w w' := by
  have HC := Lib.hid hC; clear hC
  have t0 : (k != 0) = true := by simpa using hk
  go_enter Try.func17, Try.ntmps17
  go_wp2_with fail
  refine HC.out.mono ?_
  rintro e w1 ⟨rfl, b1⟩
  have HB := Lib.hid b1; clear b1
  go_wp2
  go_ret2
  exact ⟨rfl, HB.out⟩
theorem cost_l (A A2 : Option Addr) (n m c c2 : Nat) (hk : n ≠ m) (w : World) (hC : Calls Try.prog 48 #[.slice A2 m c2] w fun e w' => e = .returned (.int .i64 0) ∧ Below w.heap.size w w') :
    Calls Try.prog 17 #[.slice A n c, .slice A2 m c2] w fun e w' => e = .returned (.tuple #[.int .i64 0, .int .i64 1]) ∧ Below w.heap.size w w' := by
  have HC := Lib.hid hC; clear hC
  have t0 : ((n : Int) != (m : Int)) = true := by simp; omega
  have t1 : (n != m) = true := by simpa using hk
  go_enter Try.func17, Try.ntmps17
  go_wp2_with fail
  refine HC.out.mono ?_
  rintro e w1 ⟨rfl, b1⟩
  have HB := Lib.hid b1; clear b1
  go_wp2
  go_ret2
  exact ⟨rfl, HB.out⟩
theorem cost_o (A A2 : Option Addr) (n c c2 : Nat) (f : Int) (hk : f ≠ 0) (w : World) (hC : Calls Try.prog 48 #[.slice A2 n c2] w fun e w' => e = .returned (.int .i64 0) ∧ Below w.heap.size w w')
    (hO : ∀ V, Below w.heap.size w V → Calls Try.prog 43 #[.slice A n c] V fun e w' => e = .returned (.int .i64 f) ∧ Below V.heap.size V w') :
    Calls Try.prog 17 #[.slice A n c, .slice A2 n c2] w fun e w' => e = .returned (.tuple #[.int .i64 0, .int .i64 f]) ∧ Below w.heap.size w w' := by
  have HC := Lib.hid hC; clear hC
  have HO := Lib.hid hO; clear hO
  have t0 : (f != 0) = true := by simpa using hk
  go_enter Try.func17, Try.ntmps17
  go_wp2_with fail
  refine HC.out.mono ?_
  rintro e w1 ⟨rfl, b1⟩
  have HB1 := Lib.hid b1; clear b1
  go_wp2_with fail
  refine (HO.out w1 HB1.out).mono ?_
  rintro e w2 ⟨rfl, b2⟩
  have HB : Hid (Below w.heap.size w w2) := HB1.out.trans (b2.mono HB1.out.size)
  clear b2
  go_wp2
  go_ret2
  exact ⟨rfl, HB.out⟩
/-- The error of Cost. -/
def coE (xs ys : List Int) : Int := if kchk ys ≠ 0 then kchk ys else if xs.length ≠ ys.length then 1 else if ofE xs ≠ 0 then ofE xs else stE (xs.map Int.toNat) (ys.map Int.toNat)
def coV (xs ys : List Int) : Int := if coE xs ys = 0 then (dot (xs.map Int.toNat) (ys.map Int.toNat) : Int) else 0
theorem coE_ok (os ls : List Nat) (hn : os.length = ls.length) (h64 : ls.length ≤ 64) (ho : ∀ x ∈ os, x ≤ 1048576) (h24 : ∀ x ∈ ls, x ≤ 24) : coE (ns os) (ns ls) = stE os ls := by
  have h1 : kchk (ns ls) = 0 := kchk_ok ls h64 h24
  have h2 : ofE (ns os) = 0 := ofE_ok os ho
  have h3 : (ns os).length = (ns ls).length := by rw [ns_length, ns_length, hn]
  unfold coE
  rw [if_neg (by omega), if_neg (by omega), if_neg (by omega), ns_nat, ns_nat]
theorem coE_cases (xs ys : List Int) : (kchk ys ≠ 0 ∧ coE xs ys = kchk ys) ∨ (kchk ys = 0 ∧ xs.length ≠ ys.length ∧ coE xs ys = 1) ∨ (kchk ys = 0 ∧ xs.length = ys.length ∧ ofE xs ≠ 0 ∧ coE xs ys = ofE xs) ∨
    (∃ os ls, xs = ns os ∧ ys = ns ls ∧ os.length = ls.length ∧ ls.length ≤ 64 ∧ (∀ x ∈ os, x ≤ 1048576) ∧ ∀ x ∈ ls, x ≤ 24) := by
  by_cases h1 : kchk ys = 0
  · by_cases h2 : xs.length = ys.length
    · by_cases h3 : ofE xs = 0
      · obtain ⟨ls, rfl, h64, h24⟩ := kchk_zero ys h1
        obtain ⟨os, rfl, ho⟩ := ofE_zero xs h3
        refine .inr (.inr (.inr ⟨os, ls, rfl, rfl, ?_, h64, ho, h24⟩))
        simpa [ns] using h2
      · refine .inr (.inr (.inl ⟨h1, h2, h3, ?_⟩))
        unfold coE
        rw [if_neg (by omega), if_neg (by omega), if_pos h3]
    · refine .inr (.inl ⟨h1, h2, ?_⟩)
      unfold coE
      rw [if_neg (by omega), if_pos h2]
  · refine .inl ⟨h1, ?_⟩
    unfold coE
    rw [if_pos h1]
theorem cost_any (xs ys : List Int) (n m : Nat) (hn : xs.length = n) (hm : ys.length = m) (hn2 : n ≤ 9223372036854775807) (hm2 : m ≤ 9223372036854775807) (A A2 : Option Addr) (c c2 : Nat) (w : World) (h : RdV w w.heap.size A (zc xs)) (h2 : RdV w w.heap.size A2 (zc ys)) :
    Calls Try.prog 17 #[.slice A n c, .slice A2 m c2] w fun e w' => e = .returned (.tuple #[.int .i64 (coV xs ys), .int .i64 (coE xs ys)]) ∧ Below w.heap.size w w' := by
  have hC := kcheck_any ys m hm hm2 A2 c2 w h2
  rcases coE_cases xs ys with ⟨h1, he⟩ | ⟨h1, h3, he⟩ | ⟨h1, h3, h4, he⟩ | ⟨os, ls, rfl, rfl, hl, h64, ho, h24⟩
  · have hv : coV xs ys = 0 := by unfold coV; rw [if_neg (by omega)]
    rw [hv, he]
    exact cost_k A A2 n m c c2 _ h1 w hC
  · have hv : coV xs ys = 0 := by unfold coV; rw [if_neg (by omega)]
    rw [hv, he]
    rw [h1] at hC
    exact cost_l A A2 n m c c2 (by omega) w hC
  · have hv : coV xs ys = 0 := by unfold coV; rw [if_neg (by omega)]
    rw [hv, he]
    rw [h1] at hC
    obtain rfl : n = m := by omega
    exact cost_o A A2 n c c2 _ h4 w hC (fun V hV => often_any xs n hn hn2 A c V (h.on hV))
  · have hv : coV (ns os) (ns ls) = coA os ls := by unfold coV coA; rw [coE_ok os ls hl h64 ho h24, ns_nat, ns_nat]
    rw [hv, coE_ok os ls hl h64 ho h24]
    rw [ns_length] at hn hm
    obtain rfl : n = m := by omega
    exact cost_ok os ls n hn hm (by omega) ho h24 A A2 c c2 w h h2
end

section
set_option maxRecDepth 100000
set_option linter.unusedVariables false
open Go.RowKit Go.Shelf Go.Sort

set_option maxHeartbeats 1000000 in
theorem unp_c (A1 : Option Addr) (n1 c1 : Nat) (len : Int) (A2 : Option Addr) (N c2 : Nat) (n : Int) (w : World) (k : Int) (hk : k ≠ 0) (hC : ∀ V, Below w.heap.size w V → Calls Try.prog 51 #[.slice A1 n1 c1] V (CoP V k)) :
    Calls Try.prog 19 #[.slice A1 n1 c1, .agg #[.int .i64 len, .slice A2 N c2], .int .i64 n] w (CoP w k) := by
  have HC := Lib.hid hC; clear hC
  have t0 : (k != 0) = true := by simpa using hk
  clear hk
  go_enter Try.func19, Try.ntmps19
  go_wp2_with fail
  generalize hV : w.alloc (.cells #[.int .i64 len, .slice A2 N c2] 25) = V0
  have HV : Hid (Below w.heap.size w V0) := hV ▸ one_below _ _
  clear hV
  refine (HC.out V0 HV.out).mono ?_
  rintro e w1 ⟨rfl, b1⟩
  have HB1 : Hid (Below w.heap.size w w1) := HV.out.trans (b1.mono HV.out.size)
  clear b1
  go_wp2
  go_ret2
  exact ⟨rfl, HB1.out⟩
set_option maxHeartbeats 1000000 in
theorem unp_r (A1 : Option Addr) (n1 c1 : Nat) (len : Int) (A2 : Option Addr) (N c2 : Nat) (n : Int) (w : World) (ls : List (List Bool)) (hl : ls.length = n1) (ec e0 : Int) (he : rgE ec [decide (0 ≤ n), decide (n ≤ 1000)] = e0) (h0 : e0 ≠ 0) (hC : ∀ V, Below w.heap.size w V → Calls Try.prog 51 #[.slice A1 n1 c1] V (GotC V ls))
    (hB : ∀ V, Below w.heap.size w V → Calls Try.prog 53 #[.agg #[.int .i64 len, .slice A2 N c2]] V fun e w' => e = .returned (.int .i64 ec) ∧ Below V.heap.size V w') :
    Calls Try.prog 19 #[.slice A1 n1 c1, .agg #[.int .i64 len, .slice A2 N c2], .int .i64 n] w (CoP w e0) := by
  have HC := Lib.hid hC; clear hC
  have HB := Lib.hid hB; clear hB
  have HL := Lib.hid hl; clear hl
  have HR := Lib.hid (range2 ec (decide (0 ≤ n)) (decide (n ≤ 1000)) e0 he)
  have t0 : (e0 != 0) = true := by simpa using h0
  clear h0 he
  go_enter Try.func19, Try.ntmps19
  go_wp2_with fail
  generalize hV : w.alloc (.cells #[.int .i64 len, .slice A2 N c2] 25) = V0
  have HV : Hid (Below w.heap.size w V0) := hV ▸ one_below _ _
  have HVs : Hid (w.heap.size + 1 = V0.heap.size) := by show _ = _; rw [← hV, World.size_alloc]
  have HK : Hid (∀ w' : World, Below V0.heap.size V0 w' → w'.cell? ⟨w.heap.size, 0, none⟩ = some (.int .i64 len) ∧ w'.cell? ⟨w.heap.size, 1, none⟩ = some (.slice A2 N c2)) := by
    subst hV
    exact fun w' h => box_at (by rwa [World.size_alloc] at h)
  clear hV
  refine (HC.out V0 HV.out).mono ?_
  rintro e w1 ⟨Ac, cc, bs, rfl, _hbs, _rr, b1⟩
  rw [HL.out]
  have HB1 := Lib.hid b1
  clear _rr _hbs b1 HC
  obtain ⟨p1, q1⟩ := HK.out w1 HB1.out
  go_wp2_with fail
  refine (HB.out w1 (HV.out.trans (HB1.out.mono HV.out.size))).mono ?_
  rintro e w2 ⟨rfl, b2⟩
  have HB2 : Hid (Below V0.heap.size V0 w2) := HB1.out.trans (b2.mono HB1.out.size)
  clear b2 p1 q1
  go_wp2_with fail
  refine (HR.out w2 _ rfl).mono ?_
  rintro e w3 ⟨rfl, b3⟩
  have HB3 : Hid (Below V0.heap.size V0 w3) := HB2.out.trans (b3.mono HB2.out.size)
  have HL3 : Hid (Below w.heap.size w w3) := HV.out.trans (HB3.out.mono HV.out.size)
  clear b3
  go_wp2
  go_ret2
  exact ⟨rfl, HL3.out⟩
end

section
set_option maxRecDepth 100000
set_option linter.unusedVariables false
open Go.RowKit Go.Shelf

theorem al1 {w V : World} {c0 : Array Value} {t0 : TypeId} (h : Below (w.alloc (.cells c0 t0)).heap.size (w.alloc (.cells c0 t0)) V) :
    Below w.heap.size w V ∧ w.heap.size < V.heap.size ∧ V.heap[w.heap.size]? = some (.cells c0 t0 (0, 0)) := by
  have h1 : (w.alloc (.cells c0 t0)).heap.size = w.heap.size + 1 := World.size_alloc _ _
  have hb : Below w.heap.size w (w.alloc (.cells c0 t0)) := one_below w _
  refine ⟨hb.trans (h.mono (by omega)), by have := h.size; omega, ?_⟩
  rw [h.block _ (by omega)]; exact World.alloc_heap_new w _
theorem low2 (w : World) (o p : Obj) : Below w.heap.size w ((w.alloc o).alloc p) := ((Below.refl _ w).alloc (Nat.le_refl _) _).alloc (by simp) _
theorem low3 (w : World) (o p q : Obj) : Below w.heap.size w (((w.alloc o).alloc p).alloc q) := (((Below.refl _ w).alloc (Nat.le_refl _) _).alloc (by simp) _).alloc (by simp; omega) _
theorem al2 {w V : World} {c0 c1 : Array Value} {t0 t1 : TypeId} (h : Below ((w.alloc (.cells c0 t0)).alloc (.cells c1 t1)).heap.size ((w.alloc (.cells c0 t0)).alloc (.cells c1 t1)) V) :
    Below w.heap.size w V ∧ w.heap.size + 1 < V.heap.size ∧ V.heap[w.heap.size]? = some (.cells c0 t0 (0, 0)) ∧ V.heap[w.heap.size + 1]? = some (.cells c1 t1 (0, 0)) := by
  have h1 : (w.alloc (.cells c0 t0)).heap.size = w.heap.size + 1 := World.size_alloc _ _
  have h2 : ((w.alloc (.cells c0 t0)).alloc (.cells c1 t1)).heap.size = w.heap.size + 2 := by rw [World.size_alloc, h1]
  obtain ⟨g1, g2, g3⟩ := al1 h
  refine ⟨(one_below w _).trans (g1.mono (by omega)), by omega, ?_, by rw [h1] at g3; exact g3⟩
  rw [g1.block _ (by omega)]; exact World.alloc_heap_new w _
theorem al3 {w V : World} {c0 c1 c2 : Array Value} {t0 t1 t2 : TypeId} (h : Below (((w.alloc (.cells c0 t0)).alloc (.cells c1 t1)).alloc (.cells c2 t2)).heap.size (((w.alloc (.cells c0 t0)).alloc (.cells c1 t1)).alloc (.cells c2 t2)) V) :
    Below w.heap.size w V ∧ w.heap.size + 1 + 1 < V.heap.size ∧ V.heap[w.heap.size]? = some (.cells c0 t0 (0, 0)) ∧ V.heap[w.heap.size + 1]? = some (.cells c1 t1 (0, 0)) ∧ V.heap[w.heap.size + 1 + 1]? = some (.cells c2 t2 (0, 0)) := by
  have h1 : (w.alloc (.cells c0 t0)).heap.size = w.heap.size + 1 := World.size_alloc _ _
  have h2 : ((w.alloc (.cells c0 t0)).alloc (.cells c1 t1)).heap.size = w.heap.size + 1 + 1 := by rw [World.size_alloc, h1]
  obtain ⟨g1, g2, g3⟩ := al1 h
  obtain ⟨k1, k2, k3, k4⟩ := al2 g1
  rw [h2] at g2 g3
  exact ⟨k1, g2, k3, k4, g3⟩

theorem lit_row (L : List Nat) (w : World) : RdV (w.alloc (.cells (zc (ns L)).toArray 3)) (w.alloc (.cells (zc (ns L)).toArray 3)).heap.size (some ⟨w.heap.size, 0, none⟩) (zc (ns L)) := by
  refine .inr ⟨w.heap.size, 0, rfl, by simp, fun i v hi => ?_⟩
  rw [cell_at (World.alloc_heap_new w (.cells (zc (ns L)).toArray 3)), Nat.zero_add]
  simpa using hi
/-- Numbers and an error come back. -/
def GzM (w : World) (n : Nat) (l : List Nat) (err : Int) (e : Ending) (w' : World) : Prop :=
  ∃ A c, e = .returned (.tuple #[.slice A n c, .int .i64 err]) ∧ n ≤ c ∧ (A = none → c = 0) ∧ RdV w' w'.heap.size A (zc (ns l)) ∧ Below w.heap.size w w'
theorem own_caps {w : World} {base n c : Nat} {e : TypeId} {A : Option Addr} {xs : List Value} (h : w.ownsRow base e 1 (.slice A n c) n xs) : n ≤ c := by
  rcases h.2 with ⟨h, h0⟩ | ⟨g, cap, cur, h, _, _, h1, _⟩
  · omega
  · simp only [Value.slice.injEq] at h; omega
theorem gzM {w : World} {n : Nat} {r : List Nat × Int} {e : Ending} {w' : World} (h : GotZ w r e w') (hn : r.1.length = n) : GzM w n r.1 r.2 e w' := by
  obtain ⟨v, h1, h2, h3⟩ := h
  rw [hn] at h2
  obtain ⟨A, c, rfl⟩ := own_slice3 h2
  exact ⟨A, c, h1, own_caps h2, own_none h2, own_rdv h2, h3⟩
/-- Lengths, bits and an error come back. -/
def PkM (w : World) (n : Nat) (l : List Nat) (lb : Int) (nb : Nat) (bb : List Nat) (err : Int) (e : Ending) (w' : World) : Prop :=
  ∃ A c A3 c3, e = .returned (.tuple #[.slice A n c, .agg #[.int .i64 lb, .slice A3 nb c3], .int .i64 err]) ∧ RdV w' w'.heap.size A (zc (ns l)) ∧ Rd w' w'.heap.size A3 bb ∧ Below w.heap.size w w'
theorem pkM {w : World} {n : Nat} {l : List Nat} {b : List Bool} {err : Int} {e : Ending} {w' : World} (h : PakP w l b err e w') (hn : l.length = n) : PkM w n l (b.length : Int) (pack b).length (pack b) err e w' := by
  obtain ⟨v, A3, c3, h1, h2, h3, h4⟩ := h
  rw [hn] at h2
  obtain ⟨A, c, rfl⟩ := own_slice3 h2
  exact ⟨A, c, A3, c3, h1, own_rdv h2, h3, h4⟩
theorem sameI_x (xs : List Int) (n : Nat) (hn : xs.length = n) (h2 : n ≤ 9223372036854775807) (A B : Option Addr) (c d : Nat) (w : World) (hA : RdV w w.heap.size A (zc xs)) (hB : RdV w w.heap.size B (zc xs)) :
    Calls Try.prog 25 #[.slice A n c, .slice B n d] w fun e w' => e = .returned (.bool true) ∧ Below w.heap.size w w' := by
  subst hn
  have h := sameI_any w A B c d xs xs h2 hA hB
  simpa using h
theorem hlA_zero (xs : List Int) (h : (hlA xs).2 = 0) : ∃ os : List Nat, xs = ns os ∧ os.length ≤ 64 ∧ (∀ x ∈ os, x ≤ 1048576) ∧ hlA xs = (hl os, 0) ∧ ∀ x ∈ hl os, x ≤ 24 := by
  unfold hlA at h ⊢
  by_cases h1 : 64 < xs.length
  · rw [if_pos h1] at h; simp at h
  · rw [if_neg h1] at h ⊢
    by_cases h2 : ofE xs = 0
    · rw [if_neg (by simpa using h2)] at h ⊢
      obtain ⟨os, rfl, hb⟩ := ofE_zero xs h2
      rw [ns_nat] at h ⊢
      obtain ⟨e1, h24⟩ := lnA_zero os h
      exact ⟨os, rfl, by rw [ns_length] at h1; omega, hb, e1, h24⟩
    · rw [if_pos (by simpa using h2)] at h
      exact absurd h h2
theorem hlA_err (xs : List Int) (h : (hlA xs).2 ≠ 0) : hlA xs = ([], (hlA xs).2) := by
  unfold hlA at h ⊢
  by_cases h1 : 64 < xs.length
  · rw [if_pos h1]
  · rw [if_neg h1] at h ⊢
    by_cases h2 : ofE xs = 0
    · rw [if_neg (by simpa using h2)] at h ⊢
      exact lnA_err _ h
    · rw [if_pos (by simpa using h2)]
theorem hlA_nat (os : List Nat) (h64 : os.length ≤ 64) (hb : ∀ x ∈ os, x ≤ 1048576) : hlA (ns os) = lnA os := by
  unfold hlA
  rw [if_neg (by rw [ns_length]; omega), if_neg (by rw [ofE_ok os hb]; simp), ns_nat]
theorem lnA_two (os : List Nat) : ((lnA os).2 = 0 ∧ lnA os = (hl os, 0) ∧ ∀ x ∈ hl os, x ≤ 24) ∨ lnA os = ([], 8) := by
  by_cases h : (lnA os).2 = 0
  · exact .inl ⟨h, (lnA_zero os h).1, (lnA_zero os h).2⟩
  · right
    have h2 := lnA_err os h
    unfold lnA at h h2 ⊢
    by_cases h1 : eachE d8 (ns (hl os)) = 0
    · rw [if_pos h1] at h; exact absurd rfl h
    · rw [if_neg h1]
theorem coE_hl (os : List Nat) (h64 : os.length ≤ 64) (hb : ∀ x ∈ os, x ≤ 1048576) (h24 : ∀ x ∈ hl os, x ≤ 24) : coE (ns os) (ns (hl os)) = 0 ∧ coV (ns os) (ns (hl os)) = (dot os (hl os) : Int) := by
  have hst : ∀ (ls qs : List Nat), (∀ i o l : Nat, ls[i]? = some o → qs[i]? = some l → (o ≠ 0 → l ≠ 0)) → stE ls qs = 0 := by
    intro ls
    induction ls with
    | nil => intro qs _; cases qs <;> rfl
    | cons o t ih =>
      intro qs h
      cases qs with
      | nil => rfl
      | cons l r =>
        have h0 := h 0 o l rfl rfl
        have ht := ih r (fun i o l h1 h2 => h (i + 1) o l (by simpa using h1) (by simpa using h2))
        unfold stE
        rw [ht]
        split
        · rename_i hc
          exact absurd hc.2 (h0 hc.1)
        · rfl
  have h1 := coE_ok os (hl os) (by rw [hl_length]) (by rw [hl_length]; exact h64) hb h24
  have h2 := hst os (hl os) (fun i o l h1 h2 => (hl_pos os i o l h1 h2).1)
  have h3 : coE (ns os) (ns (hl os)) = 0 := by rw [h1, h2]
  refine ⟨h3, ?_⟩
  unfold coV
  rw [if_pos h3, ns_nat, ns_nat]
end

section
set_option maxRecDepth 100000
set_option linter.unusedVariables false
open Go.RowKit Go.Shelf

theorem hlA_ok (os : List Nat) (h64 : os.length ≤ 64) (hb : ∀ x ∈ os, x ≤ 1048576) (l : List Nat) (h : hl os = l) (h24 : ∀ x ∈ l, x ≤ 24) : hlA (ns os) = (l, 0) := by
  subst h
  unfold hlA
  rw [if_neg (by rw [ns_length]; omega), if_neg (by rw [ofE_ok os hb]; simp), ns_nat]
  unfold lnA
  rw [if_pos (d8_all _ h24)]
theorem hl5 : hl [5, 0, 1, 2, 1] = [1, 0, 3, 2, 3] := by decide +kernel
theorem hl2 : hl [0, 7] = [0, 1] := by decide +kernel
theorem co5 : coE (ns [5, 0, 1, 2, 1]) (ns [1, 0, 3, 2, 3]) = 0 ∧ coV (ns [5, 0, 1, 2, 1]) (ns [1, 0, 3, 2, 3]) = 15 := by decide +kernel
def lb3 : List Bool := (pkA (ns [0, 2, 0]) 3).2.1
theorem pk3 : pkA (ns [0, 2, 0]) 3 = ([1, 0, 1], [false, true, false], 0) := by decide +kernel
theorem un3 : unA [1, 0, 1] [false, true, false] 3 = ([0, 2, 0], 0) := by decide +kernel
theorem un2 : unA [1, 0, 1] [false, true, false] 2 = ([], 1) := by decide +kernel
theorem pb3 : pack [false, true, false] = [64] := by decide +kernel
theorem tk3 : tkn [1, 0, 1] ≤ 16777216 := by decide +kernel
theorem hb1 (w : World) : Calls Try.prog 16 #[.slice (some ⟨w.heap.size, 0, none⟩) 5 5] (w.alloc (.cells #[.int .i64 5, .int .i64 0, .int .i64 1, .int .i64 2, .int .i64 1] 3)) (GzM (w.alloc (.cells #[.int .i64 5, .int .i64 0, .int .i64 1, .int .i64 2, .int .i64 1] 3)) 5 [1, 0, 3, 2, 3] 0) := by
  have h := lengths_any (ns [5, 0, 1, 2, 1]) 5 rfl (by decide) (some ⟨w.heap.size, 0, none⟩) 5 (w.alloc (.cells #[.int .i64 5, .int .i64 0, .int .i64 1, .int .i64 2, .int .i64 1] 3)) (lit_row [5, 0, 1, 2, 1] w)
  rw [hlA_ok [5, 0, 1, 2, 1] (by decide) (by decide) [1, 0, 3, 2, 3] hl5 (by decide)] at h
  exact h.mono fun _ _ q => gzM q rfl
theorem hb2 (A : Option Addr) (c : Nat) (w : World) (hA : RdV w w.heap.size A (zc (ns [1, 0, 3, 2, 3]))) : Calls Try.prog 17 #[.slice (some ⟨w.heap.size, 0, none⟩) 5 5, .slice A 5 c] (w.alloc (.cells #[.int .i64 5, .int .i64 0, .int .i64 1, .int .i64 2, .int .i64 1] 3)) fun e w' => e = .returned (.tuple #[.int .i64 15, .int .i64 0]) ∧ Below (w.alloc (.cells #[.int .i64 5, .int .i64 0, .int .i64 1, .int .i64 2, .int .i64 1] 3)).heap.size (w.alloc (.cells #[.int .i64 5, .int .i64 0, .int .i64 1, .int .i64 2, .int .i64 1] 3)) w' := by
  have h := cost_any (ns [5, 0, 1, 2, 1]) (ns [1, 0, 3, 2, 3]) 5 5 rfl rfl (by decide) (by decide) (some ⟨w.heap.size, 0, none⟩) A 5 c (w.alloc (.cells #[.int .i64 5, .int .i64 0, .int .i64 1, .int .i64 2, .int .i64 1] 3)) (lit_row [5, 0, 1, 2, 1] w) (hA.on (one_below w _))
  rw [co5.1, co5.2] at h
  exact h
theorem hb3 (w : World) : Calls Try.prog 18 #[.slice (some ⟨w.heap.size, 0, none⟩) 3 3, .int .i64 3] (w.alloc (.cells #[.int .i64 0, .int .i64 2, .int .i64 0] 3)) (PkM (w.alloc (.cells #[.int .i64 0, .int .i64 2, .int .i64 0] 3)) 3 [1, 0, 1] 3 1 [64] 0) := by
  have h := packs_any (ns [0, 2, 0]) 3 rfl (by decide) 3 (some ⟨w.heap.size, 0, none⟩) 3 (w.alloc (.cells #[.int .i64 0, .int .i64 2, .int .i64 0] 3)) (lit_row [0, 2, 0] w)
  rw [pk3] at h
  refine h.mono fun _ _ q => ?_
  have q2 := pkM q (n := 3) rfl
  rw [pb3] at q2
  exact q2
theorem hb4 (A A3 : Option Addr) (c c3 : Nat) (w : World) (hA : RdV w w.heap.size A (zc (ns [1, 0, 1]))) (hB : Rd w w.heap.size A3 [64]) : Calls Try.prog 19 #[.slice A 3 c, .agg #[.int .i64 3, .slice A3 1 c3], .int .i64 3] w (GzM w 3 [0, 2, 0] 0) := by
  have h := unpack_ok [1, 0, 1] 3 rfl (by decide) (by decide) tk3 A c [false, true, false] (by decide) A3 c3 3 (by decide) w hA (by rw [pb3]; exact hB)
  rw [un3, pb3] at h
  exact h.mono fun _ _ q => gzM q rfl
theorem hb5 (A A3 : Option Addr) (c c3 : Nat) (w : World) (hA : RdV w w.heap.size A (zc (ns [1, 0, 1]))) (hB : Rd w w.heap.size A3 [64]) : Calls Try.prog 19 #[.slice A 3 c, .agg #[.int .i64 3, .slice A3 1 c3], .int .i64 2] w (GzM w 0 [] 1) := by
  have h := unpack_ok [1, 0, 1] 3 rfl (by decide) (by decide) tk3 A c [false, true, false] (by decide) A3 c3 2 (by decide) w hA (by rw [pb3]; exact hB)
  rw [un2, pb3] at h
  exact h.mono fun _ _ q => gzM q rfl
theorem hb6 (w : World) : Calls Try.prog 16 #[.slice (some ⟨w.heap.size, 0, none⟩) 2 2] (w.alloc (.cells #[.int .i64 0, .int .i64 7] 3)) (GzM (w.alloc (.cells #[.int .i64 0, .int .i64 7] 3)) 2 [0, 1] 0) := by
  have h := lengths_any (ns [0, 7]) 2 rfl (by decide) (some ⟨w.heap.size, 0, none⟩) 2 (w.alloc (.cells #[.int .i64 0, .int .i64 7] 3)) (lit_row [0, 7] w)
  rw [hlA_ok [0, 7] (by decide) (by decide) [0, 1] hl2 (by decide)] at h
  exact h.mono fun _ _ q => gzM q rfl
set_option maxHeartbeats 8000000 in
theorem huffbegun_true (w : World) : Calls Try.prog 24 #[] w fun e w' => e = .returned (.bool true) ∧ Below w.heap.size w w' := by
  go_enter Try.func24, Try.ntmps24
  go_wp2_with fail
  refine (hb1 w).mono ?_
  rintro e w1_ ⟨A1, c1, rfl, -, -, Rq, Bq⟩
  obtain ⟨Sq, Zq, X1_0⟩ := al1 Bq
  clear Zq X1_0
  have HB : Hid (Below w.heap.size w w1_) := Sq
  clear Bq Sq
  have HR1 := Lib.hid Rq; clear Rq
  go_wp2_with fail
  refine (hb2 A1 c1 w1_ HR1.out).mono ?_
  rintro e w2_ ⟨rfl, Bq⟩
  obtain ⟨Sq, Zq, X2_0⟩ := al1 Bq
  clear Zq X2_0
  replace HR1 : Hid (RdV w2_ w2_.heap.size A1 (zc (ns [1, 0, 3, 2, 3]))) := HR1.out.on Sq
  replace HB : Hid (Below w.heap.size w w2_) := HB.out.trans (Sq.mono HB.out.size)
  clear Bq Sq
  go_wp2_with fail
  refine (hb3 w2_).mono ?_
  rintro e w3_ ⟨A3, c3, A4, c4, rfl, Rq, Rq2, Bq⟩
  obtain ⟨Sq, Zq, X3_0⟩ := al1 Bq
  clear Zq X3_0
  replace HR1 : Hid (RdV w3_ w3_.heap.size A1 (zc (ns [1, 0, 3, 2, 3]))) := HR1.out.on Sq
  replace HB : Hid (Below w.heap.size w w3_) := HB.out.trans (Sq.mono HB.out.size)
  clear Bq Sq
  have HR3 := Lib.hid Rq; clear Rq
  have HR4 := Lib.hid Rq2; clear Rq2
  go_wp2_with fail
  refine (hb4 A3 A4 c3 c4 _ (HR3.out.on (one_below w3_ _)) (HR4.out.on (one_below w3_ _))).mono ?_
  rintro e w4_ ⟨A5, c5, rfl, -, -, Rq, Bq⟩
  obtain ⟨Sq, Zq, X4_0⟩ := al1 Bq
  have Hp : Hid (w4_.heap[w3_.heap.size]? = some (.cells #[.int .i64 3, .slice A4 1 c4] 25 (0, 0))) := X4_0
  have zp : w3_.heap.size < w4_.heap.size := by omega
  have pp0 : w4_.cell? ⟨w3_.heap.size, 0, none⟩ = some (.int .i64 3) := (cell_at Hp.out _).trans rfl
  have pp1 : w4_.cell? ⟨w3_.heap.size, 1, none⟩ = some (.slice A4 1 c4) := (cell_at Hp.out _).trans rfl
  clear Zq X4_0
  replace HR1 : Hid (RdV w4_ w4_.heap.size A1 (zc (ns [1, 0, 3, 2, 3]))) := HR1.out.on Sq
  replace HR3 : Hid (RdV w4_ w4_.heap.size A3 (zc (ns [1, 0, 1]))) := HR3.out.on Sq
  replace HR4 : Hid (Rd w4_ w4_.heap.size A4 [64]) := HR4.out.on Sq
  replace HB : Hid (Below w.heap.size w w4_) := HB.out.trans (Sq.mono HB.out.size)
  clear Bq Sq
  have HR5 := Lib.hid Rq; clear Rq
  go_wp2_with fail
  refine (hb5 A3 A4 c3 c4 _ HR3.out HR4.out).mono ?_
  rintro e w5_ ⟨A6, c6, rfl, -, -, -, Bq⟩
  have Sq : Below w4_.heap.size w4_ w5_ := Bq
  replace Hp : Hid (w5_.heap[w3_.heap.size]? = some (.cells #[.int .i64 3, .slice A4 1 c4] 25 (0, 0))) := (Sq.block _ zp).trans Hp.out
  replace pp0 : w5_.cell? ⟨w3_.heap.size, 0, none⟩ = some (.int .i64 3) := (cell_at Hp.out _).trans rfl
  replace pp1 : w5_.cell? ⟨w3_.heap.size, 1, none⟩ = some (.slice A4 1 c4) := (cell_at Hp.out _).trans rfl
  replace zp : w3_.heap.size < w5_.heap.size := Nat.lt_of_lt_of_le zp Sq.size
  replace HR1 : Hid (RdV w5_ w5_.heap.size A1 (zc (ns [1, 0, 3, 2, 3]))) := HR1.out.on Sq
  replace HR3 : Hid (RdV w5_ w5_.heap.size A3 (zc (ns [1, 0, 1]))) := HR3.out.on Sq
  replace HR4 : Hid (Rd w5_ w5_.heap.size A4 [64]) := HR4.out.on Sq
  replace HR5 : Hid (RdV w5_ w5_.heap.size A5 (zc (ns [0, 2, 0]))) := HR5.out.on Sq
  replace HB : Hid (Below w.heap.size w w5_) := HB.out.trans (Sq.mono HB.out.size)
  clear Bq Sq
  go_wp2_with fail
  refine (hb6 w5_).mono ?_
  rintro e w6_ ⟨A7, c7, rfl, -, -, Rq, Bq⟩
  obtain ⟨Sq, Zq, X6_0⟩ := al1 Bq
  clear Zq X6_0
  replace Hp : Hid (w6_.heap[w3_.heap.size]? = some (.cells #[.int .i64 3, .slice A4 1 c4] 25 (0, 0))) := (Sq.block _ zp).trans Hp.out
  replace pp0 : w6_.cell? ⟨w3_.heap.size, 0, none⟩ = some (.int .i64 3) := (cell_at Hp.out _).trans rfl
  replace pp1 : w6_.cell? ⟨w3_.heap.size, 1, none⟩ = some (.slice A4 1 c4) := (cell_at Hp.out _).trans rfl
  replace zp : w3_.heap.size < w6_.heap.size := Nat.lt_of_lt_of_le zp Sq.size
  replace HR1 : Hid (RdV w6_ w6_.heap.size A1 (zc (ns [1, 0, 3, 2, 3]))) := HR1.out.on Sq
  replace HR3 : Hid (RdV w6_ w6_.heap.size A3 (zc (ns [1, 0, 1]))) := HR3.out.on Sq
  replace HR4 : Hid (Rd w6_ w6_.heap.size A4 [64]) := HR4.out.on Sq
  replace HR5 : Hid (RdV w6_ w6_.heap.size A5 (zc (ns [0, 2, 0]))) := HR5.out.on Sq
  replace HB : Hid (Below w.heap.size w w6_) := HB.out.trans (Sq.mono HB.out.size)
  clear Bq Sq
  have HR7 := Lib.hid Rq; clear Rq
  go_wp2_with fail
  refine (sameI_x (ns [1, 0, 3, 2, 3]) 5 rfl (by decide) A1 (some ⟨w6_.heap.size, 0, none⟩) c1 5 _ (HR1.out.on (one_below w6_ _)) (lit_row [1, 0, 3, 2, 3] w6_)).mono ?_
  rintro e w7_ ⟨rfl, Bq⟩
  obtain ⟨Sq, Zq, X7_0⟩ := al1 Bq
  clear Zq X7_0
  replace Hp : Hid (w7_.heap[w3_.heap.size]? = some (.cells #[.int .i64 3, .slice A4 1 c4] 25 (0, 0))) := (Sq.block _ zp).trans Hp.out
  replace pp0 : w7_.cell? ⟨w3_.heap.size, 0, none⟩ = some (.int .i64 3) := (cell_at Hp.out _).trans rfl
  replace pp1 : w7_.cell? ⟨w3_.heap.size, 1, none⟩ = some (.slice A4 1 c4) := (cell_at Hp.out _).trans rfl
  replace zp : w3_.heap.size < w7_.heap.size := Nat.lt_of_lt_of_le zp Sq.size
  replace HR1 : Hid (RdV w7_ w7_.heap.size A1 (zc (ns [1, 0, 3, 2, 3]))) := HR1.out.on Sq
  replace HR3 : Hid (RdV w7_ w7_.heap.size A3 (zc (ns [1, 0, 1]))) := HR3.out.on Sq
  replace HR4 : Hid (Rd w7_ w7_.heap.size A4 [64]) := HR4.out.on Sq
  replace HR5 : Hid (RdV w7_ w7_.heap.size A5 (zc (ns [0, 2, 0]))) := HR5.out.on Sq
  replace HR7 : Hid (RdV w7_ w7_.heap.size A7 (zc (ns [0, 1]))) := HR7.out.on Sq
  replace HB : Hid (Below w.heap.size w w7_) := HB.out.trans (Sq.mono HB.out.size)
  clear Bq Sq
  go_wp2_with fail
  refine (sameI_x (ns [1, 0, 1]) 3 rfl (by decide) A3 (some ⟨w7_.heap.size, 0, none⟩) c3 3 _ (HR3.out.on (one_below w7_ _)) (lit_row [1, 0, 1] w7_)).mono ?_
  rintro e w8_ ⟨rfl, Bq⟩
  obtain ⟨Sq, Zq, X8_0⟩ := al1 Bq
  clear Zq X8_0
  replace Hp : Hid (w8_.heap[w3_.heap.size]? = some (.cells #[.int .i64 3, .slice A4 1 c4] 25 (0, 0))) := (Sq.block _ zp).trans Hp.out
  replace pp0 : w8_.cell? ⟨w3_.heap.size, 0, none⟩ = some (.int .i64 3) := (cell_at Hp.out _).trans rfl
  replace pp1 : w8_.cell? ⟨w3_.heap.size, 1, none⟩ = some (.slice A4 1 c4) := (cell_at Hp.out _).trans rfl
  replace zp : w3_.heap.size < w8_.heap.size := Nat.lt_of_lt_of_le zp Sq.size
  replace HR1 : Hid (RdV w8_ w8_.heap.size A1 (zc (ns [1, 0, 3, 2, 3]))) := HR1.out.on Sq
  replace HR3 : Hid (RdV w8_ w8_.heap.size A3 (zc (ns [1, 0, 1]))) := HR3.out.on Sq
  replace HR4 : Hid (Rd w8_ w8_.heap.size A4 [64]) := HR4.out.on Sq
  replace HR5 : Hid (RdV w8_ w8_.heap.size A5 (zc (ns [0, 2, 0]))) := HR5.out.on Sq
  replace HR7 : Hid (RdV w8_ w8_.heap.size A7 (zc (ns [0, 1]))) := HR7.out.on Sq
  replace HB : Hid (Below w.heap.size w w8_) := HB.out.trans (Sq.mono HB.out.size)
  clear Bq Sq
  go_wp2_with fail
  refine (sameI_x (ns [0, 2, 0]) 3 rfl (by decide) A5 (some ⟨w8_.heap.size, 0, none⟩) c5 3 _ (HR5.out.on (one_below w8_ _)) (lit_row [0, 2, 0] w8_)).mono ?_
  rintro e w9_ ⟨rfl, Bq⟩
  obtain ⟨Sq, Zq, X9_0⟩ := al1 Bq
  clear Zq X9_0
  replace Hp : Hid (w9_.heap[w3_.heap.size]? = some (.cells #[.int .i64 3, .slice A4 1 c4] 25 (0, 0))) := (Sq.block _ zp).trans Hp.out
  replace pp0 : w9_.cell? ⟨w3_.heap.size, 0, none⟩ = some (.int .i64 3) := (cell_at Hp.out _).trans rfl
  replace pp1 : w9_.cell? ⟨w3_.heap.size, 1, none⟩ = some (.slice A4 1 c4) := (cell_at Hp.out _).trans rfl
  replace zp : w3_.heap.size < w9_.heap.size := Nat.lt_of_lt_of_le zp Sq.size
  replace HR1 : Hid (RdV w9_ w9_.heap.size A1 (zc (ns [1, 0, 3, 2, 3]))) := HR1.out.on Sq
  replace HR3 : Hid (RdV w9_ w9_.heap.size A3 (zc (ns [1, 0, 1]))) := HR3.out.on Sq
  replace HR4 : Hid (Rd w9_ w9_.heap.size A4 [64]) := HR4.out.on Sq
  replace HR5 : Hid (RdV w9_ w9_.heap.size A5 (zc (ns [0, 2, 0]))) := HR5.out.on Sq
  replace HR7 : Hid (RdV w9_ w9_.heap.size A7 (zc (ns [0, 1]))) := HR7.out.on Sq
  replace HB : Hid (Below w.heap.size w w9_) := HB.out.trans (Sq.mono HB.out.size)
  clear Bq Sq
  go_wp2_with fail
  refine (sameI_x (ns [0, 1]) 2 rfl (by decide) A7 (some ⟨w9_.heap.size, 0, none⟩) c7 2 _ (HR7.out.on (one_below w9_ _)) (lit_row [0, 1] w9_)).mono ?_
  rintro e w10_ ⟨rfl, Bq⟩
  obtain ⟨Sq, Zq, X10_0⟩ := al1 Bq
  clear Zq X10_0
  replace Hp : Hid (w10_.heap[w3_.heap.size]? = some (.cells #[.int .i64 3, .slice A4 1 c4] 25 (0, 0))) := (Sq.block _ zp).trans Hp.out
  replace pp0 : w10_.cell? ⟨w3_.heap.size, 0, none⟩ = some (.int .i64 3) := (cell_at Hp.out _).trans rfl
  replace pp1 : w10_.cell? ⟨w3_.heap.size, 1, none⟩ = some (.slice A4 1 c4) := (cell_at Hp.out _).trans rfl
  replace zp : w3_.heap.size < w10_.heap.size := Nat.lt_of_lt_of_le zp Sq.size
  replace HR1 : Hid (RdV w10_ w10_.heap.size A1 (zc (ns [1, 0, 3, 2, 3]))) := HR1.out.on Sq
  replace HR3 : Hid (RdV w10_ w10_.heap.size A3 (zc (ns [1, 0, 1]))) := HR3.out.on Sq
  replace HR4 : Hid (Rd w10_ w10_.heap.size A4 [64]) := HR4.out.on Sq
  replace HR5 : Hid (RdV w10_ w10_.heap.size A5 (zc (ns [0, 2, 0]))) := HR5.out.on Sq
  replace HR7 : Hid (RdV w10_ w10_.heap.size A7 (zc (ns [0, 1]))) := HR7.out.on Sq
  replace HB : Hid (Below w.heap.size w w10_) := HB.out.trans (Sq.mono HB.out.size)
  clear Bq Sq
  go_wp2
  go_ret
  exact ⟨rfl, HB.out⟩
end
end Go.Proofs.Ytndiocehkdbjkaa
