/- Does none begin with another one: what Apart answers, for whatever it is handed. -/
import Derived.Test.YthfjfkbolfnkkaaKBeg
import Derived.Test.YthfjfkbolfnkkaaKP6
namespace Go.Proofs.Ythfjfkbolfnkkaa
set_option maxRecDepth 100000
set_option linter.unusedVariables false
open Go.RowKit Go.Shelf Go.Sort

theorem orI_cmp (x y : List Bool) : orI (cmpB (pack x) (pack y)) (Lib.compareInt (x.length : Int) (y.length : Int)) = cmpL x y := by
  unfold orI cmpL
  by_cases h : cmpB (pack x) (pack y) = 0
  · rw [if_pos h, if_neg (by omega)]
    unfold Lib.compareInt
    rcases Nat.lt_trichotomy x.length y.length with h | h | h
    · rw [if_pos (by omega), if_pos h]
    · rw [if_neg (by omega), if_neg (by omega), if_neg (by omega), if_neg (by omega)]
    · rw [if_neg (by omega), if_pos (by omega), if_neg (by omega), if_pos h]
  · rw [if_neg h, if_pos h]
/-- Bits that are right and can be read below a block. -/
def Ok (w : World) (B : Nat) (x : Bx) : Prop := Rd w B x.2.1 (pack x.1) ∧ x.1.length ≤ 8192
abbrev Sx (w : World) (B : Nat) := { x : Bx // Ok w B x }
instance (w : World) (B : Nat) : Inhabited (Sx w B) := ⟨⟨([], none, 0), .inl rfl, by simp⟩⟩
def encS (w : World) (B : Nat) (x : Sx w B) : List Value := encB x.1
def cfS (w : World) (B : Nat) (x y : Sx w B) : Int := cmpL x.1.1 y.1.1
theorem swoS (w : World) (B : Nat) : SWO (ltOf (cfS w B)) where
  irrefl x := by unfold ltOf cfS; rw [decide_eq_false_iff_not, cmpL_lt _ _ x.2.2 x.2.2]; omega
  trans x y z h1 h2 := by
    unfold ltOf cfS at *
    rw [decide_eq_true_eq, cmpL_lt _ _ x.2.2 y.2.2] at h1
    rw [decide_eq_true_eq, cmpL_lt _ _ y.2.2 z.2.2] at h2
    rw [decide_eq_true_eq, cmpL_lt _ _ x.2.2 z.2.2]
    omega
  ntrans x y z h1 h2 := by
    unfold ltOf cfS at *
    rw [decide_eq_false_iff_not, cmpL_lt _ _ x.2.2 y.2.2] at h1
    rw [decide_eq_false_iff_not, cmpL_lt _ _ y.2.2 z.2.2] at h2
    rw [decide_eq_false_iff_not, cmpL_lt _ _ x.2.2 z.2.2]
    omega
theorem sw_block {α : Type} [Inhabited α] (enc : α → List Value) (k : Nat) (w : World) (g m : Nat) (dk : Array α) (os : Array Obj) (j : Nat) (hj : j < w.heap.size) (hg : j ≠ g) : (sortWorldK enc k w g 0 m dk os).heap[j]? = w.heap[j]? := by
  unfold sortWorldK
  rw [heap_grow_old _ _ (by unfold putRowK; rw [size_putRow]; exact hj)]
  show (w.heap.modify g _)[j]? = _
  rw [Array.getElem?_modify, if_neg (fun e => hg e.symm)]
theorem rd_lt {w : World} {B : Nat} {A : Option Addr} {bs : List Nat} (h : Rd w B A bs) {w' : World} {B' : Nat} (hk : ∀ k, k < B → w'.heap[k]? = w.heap[k]?) (hB : B ≤ B') : Rd w' B' A bs := h.keep hB hk
theorem cmpLaysS (g size : Nat) (w : World) (B : Nat) (hBg : B ≤ g) (hg : g < w.heap.size) : CmpLays Try.prog 42 #[] (encS w B) 2 (cfS w B) g 0 size w := by
  intro m os dk hs x y
  obtain ⟨⟨x1, A1, c1⟩, hx1, hx2⟩ := x
  obtain ⟨⟨y1, A2, c2⟩, hy1, hy2⟩ := y
  have hc := closB (x1.length : Int) (y1.length : Int) A1 A2 (pack x1).length (pack y1).length c1 c2 (cmpB (pack x1) (pack y1)) (sortWorldK (encS w B) 2 w g 0 m dk os) (fun V hV => by
    have hsz : w.heap.size ≤ (sortWorldK (encS w B) 2 w g 0 m dk os).heap.size := size_sortWorldK_c _ _ _ _ _ _ _ _
    have hk : ∀ k, k < B → V.heap[k]? = w.heap[k]? := fun k hk => (hV.block k (by omega)).trans (sw_block _ _ _ _ _ _ _ k (by omega) (by omega))
    exact bcmp_any (pack x1) (pack y1) _ _ rfl rfl (pack_lt _) (pack_lt _) A1 A2 c1 c2 V B B (rd_lt hx1 hk (Nat.le_refl _)) (rd_lt hy1 hk (Nat.le_refl _)))
  rw [orI_cmp] at hc
  exact hc
theorem entersB : ∀ args w, (callFunc 42 args).run Try.prog w = .ok (.enter 42 args) w := enters_of Try.func42 (by kernel_rfl) rfl
theorem sx_list (w : World) (B : Nat) : ∀ bs : List Bx, (∀ x ∈ bs, Ok w B x) → ∃ ss : List (Sx w B), ss.map (fun x => x.1) = bs
  | [], _ => ⟨[], rfl⟩
  | x :: t, h => by
    obtain ⟨ss, hs⟩ := sx_list w B t (fun y hy => h y (List.mem_cons_of_mem _ hy))
    exact ⟨⟨x, h x List.mem_cons_self⟩ :: ss, by simp [hs]⟩
theorem sx_flat (w : World) (B : Nat) (ss : List (Sx w B)) : ss.flatMap (encS w B) = (ss.map (fun x => x.1)).flatMap encB := by
  induction ss with
  | nil => rfl
  | cons x t ih => rw [List.flatMap_cons, List.map_cons, List.flatMap_cons, ih]; rfl
theorem sortB_any (bs : List Bx) (n : Nat) (hn : bs.length = n) (h64 : n ≤ 64) (base B : Nat) (v : Value) (w : World) (hB : B ≤ base) (hok : ∀ x ∈ bs, Ok w B x) (h : w.ownsRow base 26 2 v n (bs.flatMap encB)) :
    Calls Try.prog 41 #[v, .func (.func 42) #[] #[]] w fun e w' => e = .returned (.tuple #[]) ∧ ∃ bs' : List Bx, bs'.Perm bs ∧ (bs'.map (fun x => x.1)).Pairwise (fun x y => key x ≤ key y) ∧ w'.ownsRow base 26 2 v n (bs'.flatMap encB) ∧ Below base w w' := by
  rcases h.2 with ⟨rfl, h0⟩ | ⟨g, cap, cur, rfl, hb, hg, h1, h2, h3, h4⟩
  · subst h0
    have : bs = [] := List.eq_nil_of_length_eq_zero hn
    subst this
    exact (AnyF.slices_SortFunc_none sortB none 0 _ w).mono fun e w' ⟨he, hw⟩ => by
      subst hw
      exact ⟨he, [], .refl _, .nil, h, Below.refl _ _⟩
  · obtain ⟨ss, hss⟩ := sx_list w B bs hok
    have hl : ss.length = n := by rw [← hn, ← hss, List.length_map]
    have hgs : g < w.heap.size := (Array.getElem?_eq_some_iff.1 hg).1
    have h' : w.ownsRow base 26 2 (.slice (some ⟨g, 0, none⟩) n cap) n (ss.flatMap (encS w B)) := by rw [sx_flat, hss]; exact h
    have hcon := AnyQ.slices_SortFunc sortB 2 Try.isAgg26 Try.sizeOf26 (encS w B) (fun x => encB_len x.1) (fun x => encB_one x.1) (cfS w B) (swoS w B) 42 #[] g 0 cap ss.toArray w entersB (cmpLaysS g _ w B (by omega) hgs) (own_holdsK (encS w B) 2 (fun x => encB_len x.1) ss h' hl) hgs (by simp [hl]; omega)
    have es : ss.toArray.size = n := by simp [hl]
    rw [es] at hcon
    refine hcon.mono ?_
    rintro e w' ⟨he, d', m, os, hP, hS, rfl⟩
    obtain ⟨p1, p2⟩ := perm_list (by rw [es]; exact hP) (by rw [es]; exact hS)
    rw [List.toList_toArray] at p1
    have hl' : d'.toList.length = n := by rw [p1.length_eq]; exact hl
    have hput := put_own (encS w B) 2 (fun x => encB_len x.1) ss d'.toList h' hl hl' m os
    rw [sx_flat] at hput
    refine ⟨he, d'.toList.map (fun x => x.1), by rw [← hss]; exact p1.map _, ?_, hput.1, hput.2⟩
    rw [List.map_map]
    refine List.pairwise_map.2 (p2.imp fun {x y} hxy => ?_)
    unfold ltOf cfS at hxy
    rw [decide_eq_false_iff_not, cmpL_lt _ _ y.2.2 x.2.2] at hxy
    simp only [Function.comp]
    omega
theorem own_rdb {w : World} {base n : Nat} {v : Value} {bs : List Bx} (hn : bs.length = n) (h : w.ownsRow base 26 2 v n (bs.flatMap encB)) (hr : ∀ x ∈ bs, Rd w w.heap.size x.2.1 (pack x.1)) : ∃ A c, v = .slice A n c ∧ RdR w w.heap.size A (bs.map rx) := by
  rcases h.2 with ⟨rfl, rfl⟩ | ⟨g, cap, cur, rfl, hb, hg, h1, h2, h3, h4⟩
  · exact ⟨none, 0, rfl, .inl (by rw [List.eq_nil_of_length_eq_zero hn]; rfl)⟩
  · exact ⟨_, cap, rfl, own_rdr h hr⟩
/-- None begins with another one. -/
def apart (ls : List (List Bool)) : Prop := (ls.filter (fun x => !x.isEmpty)).Pairwise pf
theorem apart_perm {a b : List (List Bool)} (h : a.Perm b) : apart a ↔ apart b := (h.filter _).pairwise_iff (fun h => pf_symm h)
theorem adj_cons (b x : List Bool) (t : List (List Bool)) : adj b (x :: t) = if b ≠ [] ∧ b <+: x then false else adj x t := rfl
theorem key_nil : key [] = 0 := by
  unfold key zv
  rw [show num [] = 0 from rfl, Nat.zero_mul]; rfl
theorem box_put {w : World} {K : Nat} {T : TypeId} {a b : Value} (h : w.heap[K]? = some (.cells #[a, b] T (0, 0))) (u v : Value) (o : Obj) : (((w.setCell ⟨K, 0, none⟩ u).setCell ⟨K, 1, none⟩ v).alloc o).heap[K]? = some (.cells #[u, v] T (0, 0)) := by
  have hK : K < w.heap.size := (Array.getElem?_eq_some_iff.1 h).1
  rw [Below.heap_alloc _ _ _ (by simpa [World.setCell] using hK), heap_set_same _ _ _ _ _ _ (heap_set_same _ _ _ _ _ _ h)]
  simp
theorem adj_apart (ls : List (List Bool)) (h : ∀ x ∈ ls, x.length ≤ 8192) (hs : ls.Pairwise (fun x y => key x ≤ key y)) : adj [] ls = true ↔ apart ls := by
  have := adj_true ls [] (by simp) h (List.pairwise_cons.2 ⟨fun x _ => by rw [key_nil]; exact Nat.zero_le _, hs⟩)
  rw [this]
  unfold apart
  simp
/-- What Apart answers. -/
def ApP (w : World) (ls : List (List Bool)) (e : Ending) (w' : World) : Prop := ∃ b : Bool, (b = true ↔ apart ls) ∧ e = .returned (.tuple #[.bool b, .int .i64 0]) ∧ Below w.heap.size w w'
/-- At each round's head: the first i begin with none ahead of them. -/
def ApRel (ls : List (List Bool)) (w4 : World) (Bb : Nat) (p : Value) (wr : World) : Prop :=
  ∃ (i : Nat) (x0 : Bx), i ≤ ls.length ∧ p = .int .i64 (i : Int) ∧ wr.heap[Bb]? = some (.cells #[.int .i64 (x0.1.length : Int), .slice x0.2.1 (pack x0.1).length x0.2.2] 26 (0, 0)) ∧
    Rd wr Bb x0.2.1 (pack x0.1) ∧ x0.1.length ≤ 8192 ∧ adj x0.1 (ls.drop i) = adj [] ls ∧ Below w4.heap.size w4 wr

set_option maxHeartbeats 4000000 in
theorem apart_ok (bs : List Bx) (n : Nat) (hn : bs.length = n) (h64 : n ≤ 64) (A : Option Addr) (c : Nat) (w : World) (h : RdR w w.heap.size A (bs.map rx)) (h8 : ∀ x ∈ bs, x.1.length ≤ 8192) :
    Calls Try.prog 14 #[.slice A n c] w (ApP w (bs.map (fun x => x.1))) := by
  have hE : eachE fE (bs.map rx) = 0 := by
    rw [eachE_zero]
    intro x hx
    obtain ⟨y, hy, rfl⟩ := List.mem_map.1 hx
    exact chk_pack _ (h8 y hy)
  have HE0 := each_bits (bs.map rx) n (by rw [List.length_map]; exact hn) (by omega) A c w h (fun x hx => by
    obtain ⟨y, hy, rfl⟩ := List.mem_map.1 hx
    exact pack_lt _)
  rw [hE] at HE0
  have HE := Lib.hid HE0; clear HE0 hE
  have HCl : Hid (∀ V, Below w.heap.size w V → Calls Try.prog 40 #[.slice A n c] V fun e w' => ∃ v, e = .returned v ∧ w'.ownsRow V.heap.size 26 2 v n (bs.flatMap encB) ∧ Below V.heap.size V w') := fun V hV => clone_any bs n hn h64 A c V (h.on hV)
  have HRd : Hid (∀ x ∈ bs, Rd w w.heap.size x.2.1 (pack x.1)) := by
    intro x hx
    obtain ⟨i, hi, rfl⟩ := List.getElem_of_mem hx
    obtain ⟨_, _, _, _, _, _, r⟩ := h.at_ (show (bs.map rx)[i]? = some (rx bs[i]) by simp [hi])
    exact r
  have H8 := Lib.hid h8
  have HN := Lib.hid hn
  clear h h8
  go_enter Try.func14, Try.ntmps14
  go_wp2_with fail
  refine HE.out.mono ?_
  rintro e w1 ⟨rfl, b1⟩
  have HB1 := Lib.hid b1; clear b1
  go_wp2_with fail
  refine (HCl.out w1 HB1.out).mono ?_
  rintro e w2 ⟨v, rfl, o2, b2⟩
  have HO2 := Lib.hid o2; have HB2 : Hid (Below w.heap.size w w2) := HB1.out.trans (b2.mono HB1.out.size)
  have HOk : Hid (∀ x ∈ bs, Ok w2 w.heap.size x) := fun x hx => ⟨(HRd.out x hx).below HB2.out (Nat.le_refl _), H8.out x hx⟩
  have HS := Lib.hid (sortB_any bs n hn h64 w1.heap.size w.heap.size v w2 HB1.out.size HOk.out o2)
  have hs12 : w1.heap.size ≤ w2.heap.size := b2.size
  clear o2 b2
  go_wp2_with fail
  refine HS.out.mono ?_
  rintro e w3 ⟨rfl, bs', hp, hsort, o3, b3⟩
  have HB3 : Hid (Below w.heap.size w w3) := HB2.out.trans (b3.mono HB1.out.size)
  have hl' : bs'.length = n := by rw [hp.length_eq]; exact hn
  obtain ⟨Av, cv, rfl, rr3⟩ := own_rdb hl' o3 (fun x hx => ((HRd.out x (hp.subset hx)).below HB3.out (HB3.out.size)))
  have HRR := Lib.hid rr3
  have H8' : Hid (∀ x ∈ bs', x.1.length ≤ 8192) := fun x hx => H8.out x (hp.subset hx)
  have HAd : Hid (adj [] (bs'.map (fun x => x.1)) = true ↔ apart (bs.map (fun x => x.1))) := by
    have h1 := adj_apart (bs'.map (fun x => x.1)) (fun x hx => by
      obtain ⟨y, hy, rfl⟩ := List.mem_map.1 hx
      exact H8'.out y hy) hsort
    rw [show _ ↔ _ from h1]
    exact apart_perm (hp.map _)
  have HRd' : Hid (∀ x ∈ bs', Rd w w.heap.size x.2.1 (pack x.1)) := fun x hx => HRd.out x (hp.subset hx)
  have HL : Hid (bs'.length = n) := hl'
  clear o3 b3 rr3 hp hsort HS HO2 HOk hl'
  have HLs : Hid ((bs'.map (fun x => x.1)).length = n) := by show _ = _; rw [List.length_map]; exact HL.out
  go_wp2
  go_loopw [24] (fun p wr => ApRel (bs'.map (fun x => x.1)) w3 w3.heap.size p wr) (fun p _ => n - (intOf p).toNat)
  case atStart => exact ⟨0, ([], none, 0), Nat.zero_le _, rfl, World.alloc_heap_new w3 _, .inl rfl, by simp, rfl, one_below w3 _⟩
  case round =>
    obtain ⟨i, x0, hi, rfl, hbox, hr0, h80, hadj, hbel⟩ := hrel
    rw [HLs.out] at hi
    by_cases hlt : i < n
    · have hin : i < bs'.length := by rw [HL.out]; exact hlt
      have hyi : bs'[i]? = some (bAt bs' i) := by unfold bAt; rw [List.getElem?_eq_getElem hin]; rfl
      have hyi2 : (bs'.map rx)[i]? = some (rx (bAt bs' i)) := by rw [List.getElem?_map, hyi]; rfl
      obtain ⟨b, off, rfl, hb, k0, k1, k2⟩ := (HRR.out.below hbel hbel.size).at_ hyi2
      have h8y := H8'.out _ (List.mem_of_getElem? hyi)
      have hrdy := HRd'.out _ (List.mem_of_getElem? hyi)
      have hdr : (bs'.map (fun x => x.1)).drop i = (bAt bs' i).1 :: (bs'.map (fun x => x.1)).drop (i + 1) := by
        rw [List.drop_eq_getElem_cons (by simpa using hin), List.getElem_map]
        unfold bAt; rw [List.getElem?_eq_getElem hin]; rfl
      rw [hdr, adj_cons] at hadj
      have hw3r : w3.heap.size < wr.heap.size := (Array.getElem?_eq_some_iff.1 hbox).1
      have z0 : wr.cell? ⟨w3.heap.size, 0, none⟩ = some (.int .i64 (x0.1.length : Int)) := (cell_at hbox _).trans rfl
      have z1 : wr.cell? ⟨w3.heap.size, 1, none⟩ = some (.slice x0.2.1 (pack x0.1).length x0.2.2) := (cell_at hbox _).trans rfl
      have f0 : wr.frozen? ⟨w3.heap.size, 0, none⟩ = false := by simp [World.frozen?, hbox]
      have f1 : wr.frozen? ⟨w3.heap.size, 1, none⟩ = false := by simp [World.frozen?, hbox]
      have HBel := Lib.hid hbel; have HBox := Lib.hid hbox
      obtain ⟨y, hy⟩ : ∃ y, bAt bs' i = y := ⟨_, rfl⟩
      rw [hy] at k0 k1 k2 h8y hadj hrdy
      obtain ⟨y1, Ay, cy⟩ := y
      obtain ⟨x1, Ax, cx⟩ := x0
      simp only [rx] at k0 k1 k2 h8y hadj hr0 h80 z0 z1 HBox hrdy
      have HRy := Lib.hid hrdy
      have HK2 := Lib.hid k2; have HR0 := Lib.hid hr0
      have hw3le : w.heap.size ≤ wr.heap.size := Nat.le_trans HB3.out.size (by omega)
      have HBg : Hid (∀ V : World, Below wr.heap.size wr V → Calls Try.prog 46 #[.agg #[.int .i64 (y1.length : Int), .slice Ay (pack y1).length cy], .agg #[.int .i64 (x1.length : Int), .slice Ax (pack x1).length cx]] V fun e w' => e = .returned (.bool (decide (x1 <+: y1))) ∧ Below V.heap.size V w') := fun V hV =>
        begins_any y1 x1 _ _ rfl rfl h8y h80 Ay Ax cy cx _ _ rfl rfl V (HK2.out.below (hV.mono (by omega)) (by have := hV.size; omega)) (HR0.out.below (hV.mono (by omega)) (by have := hV.size; omega))
      clear hyi hyi2 hdr hy k2 hr0 hbel hbox
      by_cases hx0 : x1.length = 0
      · have hnil : x1 = [] := List.eq_nil_of_length_eq_zero hx0
        rw [if_neg (fun h => h.1 hnil)] at hadj
        have HAj := Lib.hid hadj
        have t0 : ((x1.length : Nat) : Int) = 0 := by omega
        rw [t0] at z0
        clear hadj t0
        have HNx : Hid ((pack y1).length = (pack y1).length) := rfl
        generalize (pack x1).length = Nx at *
        have HB9 : Hid (Below w3.heap.size w3 (((wr.setCell ⟨w3.heap.size, 0, none⟩ (.int .i64 (y1.length : Int))).setCell ⟨w3.heap.size, 1, none⟩ (.slice Ay (pack y1).length cy)).alloc (.cells #[.int .i64 (y1.length : Int), .slice Ay (pack y1).length cy] 26))) := ((HBel.out.setCell (Nat.le_refl _) _).setCell (Nat.le_refl _) _).alloc (by simp [World.setCell]; omega) _
        have HX9 := Lib.hid (box_put HBox.out (.int .i64 (y1.length : Int)) (.slice Ay (pack y1).length cy) (.cells #[.int .i64 (y1.length : Int), .slice Ay (pack y1).length cy] 26))
        have HR9 : Hid (Rd _ w3.heap.size Ay (pack y1)) := HRy.out.below (HB3.out.trans (HB9.out.mono HB3.out.size)) HB3.out.size
        have H8y := Lib.hid h8y
        clear HK2 HBox h8y hrdy
        go_wp2
        go_roundw
        case rel => exact ⟨i + 1, (y1, Ay, cy), by rw [HLs.out]; omega, by go_num, HX9.out, HR9.out, H8y.out, HAj.out, HB9.out⟩
        case measure => simp [intOf]; omega
      · have hpos : 0 < x1.length := by omega
        have tpos : decide ((0 : Int) < (x1.length : Int)) = true := by simp; omega
        have hne : x1 ≠ [] := by rintro rfl; simp at hpos
        by_cases hp : x1 <+: y1
        · rw [if_pos ⟨hne, hp⟩] at hadj
          have HF : Hid ((false = true) ↔ apart (bs.map (fun x => x.1))) := by
            have := HAd.out
            rw [← hadj] at this
            exact this
          rw [decide_eq_true hp] at HBg
          clear hadj hp hne HK2 HBox h8y hrdy hx0
          generalize x1.length = lx at *
          generalize (pack x1).length = Nx at *
          go_wp2_with fail
          refine (HBg.out _ (one_below wr _)).mono ?_
          rintro e w7 ⟨rfl, b7⟩
          have HB7 : Hid (Below w.heap.size w w7) := HB3.out.trans ((HBel.out.trans (((one_below wr _).trans (b7.mono (by simp))).mono (by omega))).mono HB3.out.size)
          clear b7
          go_wp2
          go_ret2
          exact ⟨false, HF.out, rfl, HB7.out⟩
        · rw [if_neg (fun h => hp h.2)] at hadj
          have HAj := Lib.hid hadj
          rw [decide_eq_false hp] at HBg
          have H8y := Lib.hid h8y
          clear hadj hp hne HK2 h8y hrdy hx0
          generalize x1.length = lx at *
          generalize (pack x1).length = Nx at *
          go_wp2_with fail
          refine (HBg.out _ (one_below wr _)).mono ?_
          rintro e w7 ⟨rfl, b7⟩
          have HB7 : Hid (Below w3.heap.size w3 w7) := HBel.out.trans (((one_below wr _).trans (b7.mono (by simp))).mono (by omega))
          have HX7 := Lib.hid ((((one_below wr (.cells #[.int .i64 (y1.length : Int), .slice Ay (pack y1).length cy] 26)).trans (b7.mono (by simp))).block w3.heap.size hw3r).trans HBox.out)
          have n0 := World.alloc_heap_new wr (.cells #[.int .i64 (y1.length : Int), .slice Ay (pack y1).length cy] 26)
          have k9 := (b7.block wr.heap.size (by simp)).trans n0
          have q0 : w7.cell? ⟨wr.heap.size, 0, none⟩ = some (.int .i64 (y1.length : Int)) := (cell_at k9 _).trans rfl
          have q1 : w7.cell? ⟨wr.heap.size, 1, none⟩ = some (.slice Ay (pack y1).length cy) := (cell_at k9 _).trans rfl
          have g0 : w7.cell? ⟨w3.heap.size, 0, none⟩ = some (.int .i64 (lx : Int)) := (cell_at HX7.out _).trans rfl
          have g1 : w7.cell? ⟨w3.heap.size, 1, none⟩ = some (.slice Ax Nx cx) := (cell_at HX7.out _).trans rfl
          have g2 : w7.frozen? ⟨w3.heap.size, 0, none⟩ = false := by simp [World.frozen?, HX7.out]
          have g3 : w7.frozen? ⟨w3.heap.size, 1, none⟩ = false := by simp [World.frozen?, HX7.out]
          clear b7 n0 k9
          have HB9 : Hid (Below w3.heap.size w3 ((w7.setCell ⟨w3.heap.size, 0, none⟩ (.int .i64 (y1.length : Int))).setCell ⟨w3.heap.size, 1, none⟩ (.slice Ay (pack y1).length cy))) := (HB7.out.setCell (Nat.le_refl _) _).setCell (Nat.le_refl _) _
          have HX9 : Hid (((w7.setCell ⟨w3.heap.size, 0, none⟩ (.int .i64 (y1.length : Int))).setCell ⟨w3.heap.size, 1, none⟩ (.slice Ay (pack y1).length cy)).heap[w3.heap.size]? = some (.cells #[.int .i64 (y1.length : Int), .slice Ay (pack y1).length cy] 26 (0, 0))) := by
            show _ = _
            rw [heap_set_same _ _ _ _ _ _ (heap_set_same _ _ _ _ _ _ HX7.out)]
            simp
          have HR9 : Hid (Rd _ w3.heap.size Ay (pack y1)) := HRy.out.below (HB3.out.trans (HB9.out.mono HB3.out.size)) HB3.out.size
          go_wp2
          go_roundw
          case rel => exact ⟨i + 1, (y1, Ay, cy), by rw [HLs.out]; omega, by go_num, HX9.out, HR9.out, H8y.out, HAj.out, HB9.out⟩
          case measure => simp [intOf]; omega
    · have he : (bs'.map (fun x => x.1)).drop i = [] := List.drop_eq_nil_of_le (by rw [HLs.out]; omega)
      rw [he] at hadj
      have HF : Hid ((true = true) ↔ apart (bs.map (fun x => x.1))) := by
        have := HAd.out
        rw [← hadj] at this
        exact this
      have HB7 := Lib.hid hbel
      clear hadj he hbox hr0 h80 hbel
      go_wp2
      go_ret2
      exact ⟨true, ⟨fun _ => by simpa using HF.out, fun _ => rfl⟩, rfl, HB3.out.trans (HB7.out.mono HB3.out.size)⟩
/-- Apart that answers an error. -/
def apE (rs : List Rx) : Int := if 64 < rs.length then 2 else eachE fE rs
set_option maxHeartbeats 1000000 in
theorem apart_e (rs : List Rx) (n : Nat) (hn : rs.length = n) (hn2 : n ≤ 9223372036854775807) (A : Option Addr) (c : Nat) (w : World) (h : RdR w w.heap.size A rs) (hb : ∀ x ∈ rs, ∀ b ∈ x.2.2.2, b < 256) (e0 : Int) (he : apE rs = e0) (h0 : e0 ≠ 0) :
    Calls Try.prog 14 #[.slice A n c] w fun e w' => e = .returned (.tuple #[.bool false, .int .i64 e0]) ∧ Below w.heap.size w w' := by
  unfold apE at he
  rw [hn] at he
  by_cases h64 : 64 < n
  · rw [if_pos h64] at he
    subst he
    go_enter Try.func14, Try.ntmps14
    go_wp2
    go_ret2
    exact ⟨rfl, Below.refl _ _⟩
  · rw [if_neg h64] at he
    have HE0 := each_bits rs n hn hn2 A c w h hb
    rw [he] at HE0
    have HE := Lib.hid HE0; clear HE0 h hb hn he
    have t0 : (e0 == 0) = false := by simpa using h0
    clear h0
    go_enter Try.func14, Try.ntmps14
    go_wp2_with fail
    refine HE.out.mono ?_
    rintro e w1 ⟨rfl, b1⟩
    go_wp2
    go_ret2
    exact ⟨rfl, b1⟩
/-- Where there is no error all are right. -/
theorem apE_zero (rs : List Rx) (hb : ∀ x ∈ rs, ∀ b ∈ x.2.2.2, b < 256) (h : apE rs = 0) : ∃ bs : List Bx, rs = bs.map rx ∧ rs.length ≤ 64 ∧ ∀ x ∈ bs, x.1.length ≤ 8192 := by
  unfold apE at h
  by_cases h64 : 64 < rs.length
  · rw [if_pos h64] at h; omega
  · rw [if_neg h64, eachE_zero] at h
    refine ⟨rs.map (fun x => (unpack x.1.toNat x.2.2.2, x.2.1, x.2.2.1)), ?_, by omega, ?_⟩
    · rw [List.map_map]
      conv => lhs; rw [← List.map_id rs]
      refine List.map_congr_left fun x hx => ?_
      obtain ⟨l, h1, h2, h3⟩ := chk_zero x.1 x.2.2.2 (hb x hx) (h x hx)
      obtain ⟨a, b, c, d⟩ := x
      simp only at h1 h3
      subst h1 h3
      have e : unpack l.length (pack l) = l := by
        apply pack_inj (by rw [unpack_length])
        exact pack_unpack _ _ (pack_lt l) (pack_length l) (stray_pack l)
      simp [rx, e]
    · intro x hx
      obtain ⟨y, hy, rfl⟩ := List.mem_map.1 hx
      obtain ⟨l, h1, h2, h3⟩ := chk_zero y.1 y.2.2.2 (hb y hy) (h y hy)
      simp only [unpack_length, h1]
      omega
end Go.Proofs.Ythfjfkbolfnkkaa
