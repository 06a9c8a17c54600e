/- The words of lengths, sorted: what sortedWords answers. -/
import Derived.Test.YthfjfkbolfnkkaaKSw
import Derived.Laws.AppendOwnNone
import Derived.Deep.AppendLies
namespace Go.Proofs.Ythfjfkbolfnkkaa
set_option maxRecDepth 100000
set_option linter.unusedVariables false
open Go.RowKit Go.Shelf Go.Sort

theorem info3i : (Try.prog.info? 3).map (fun i => (i.zero, i.size, i.bytes)) = some (some (.int .i64 0), 1, 8) := by kernel_rfl
theorem info_word : (Try.prog.info? 60).map (fun i => (i.zero, i.size, i.bytes)) = some (some (.agg #[.int .i64 0, .int .i64 0, .int .u64 0]), 3, 24) := by kernel_rfl
def encW (x : Wn) : List Value := [.int .i64 (x.1 : Int), .int .i64 (x.2.1 : Int), .int .u64 (x.2.2 : Int)]
theorem encW_len (x : Wn) : (encW x).length = 3 := rfl
theorem encW_one (x : Wn) : ∀ u ∈ encW x, u.oneCell' = true := by
  intro u hu
  simp [encW] at hu
  rcases hu with rfl | rfl | rfl <;> rfl
/-- Words without their numbers yet. -/
def w0 (ps : List Wd) : List Wn := ps.map fun p => (p.1, p.2, 0)
theorem uws_append : ∀ (a b : List Nat) (i : Nat), uws i (a ++ b) = uws i a ++ uws (i + a.length) b
  | [], b, i => by simp [uws]
  | x :: a, b, i => by
    simp only [List.cons_append, uws]
    rw [uws_append a b (i + 1), List.length_cons, show i + 1 + a.length = i + (a.length + 1) by omega]
    split <;> rfl
theorem uws_take (l : List Nat) (i : Nat) (h : i < l.length) : uws 0 (l.take (i + 1)) = uws 0 (l.take i) ++ (if l[i]?.getD 0 = 0 then [] else [(i, l[i]?.getD 0)]) := by
  rw [take_snoc l i h, uws_append]
  have : (l.take i).length = i := by rw [List.length_take]; omega
  rw [this, Nat.zero_add]
  simp only [uws]
theorem uws_len : ∀ (l : List Nat) (i : Nat), (uws i l).length ≤ l.length
  | [], i => Nat.le_refl _
  | x :: l, i => by
    have := uws_len l (i + 1)
    unfold uws
    split <;> simp <;> omega

def cfW (x y : Wn) : Int := orI (Lib.compareInt (x.2.1 : Int) (y.2.1 : Int)) (Lib.compareInt (x.1 : Int) (y.1 : Int))
theorem cmpLaysW (blk off size : Nat) (w : World) : CmpLays Try.prog 85 #[] encW 3 cfW blk off size w :=
  fun _ _ _ _ x y => closW (x.1 : Int) (x.2.1 : Int) (x.2.2 : Int) (y.1 : Int) (y.2.1 : Int) (y.2.2 : Int) _
theorem entersW : ∀ args w, (callFunc 85 args).run Try.prog w = .ok (.enter 85 args) w := enters_of Try.func85 (by kernel_rfl) rfl
theorem sortW_any (ps : List Wd) (n : Nat) (hn : ps.length = n) (h64 : n ≤ 64) (base : Nat) (v : Value) (w : World) (h : w.ownsRow base 60 3 v n ((w0 ps).flatMap encW)) :
    Calls Try.prog 84 #[v, .func (.func 85) #[] #[]] w fun e w' => e = .returned (.tuple #[]) ∧ w'.ownsRow base 60 3 v n ((w0 (wsort ps)).flatMap encW) ∧ Below base w w' := by
  rcases h.2 with ⟨rfl, h0⟩ | ⟨g, cap, cur, rfl, hb, hg, h1, h2, h3, h4⟩
  · subst h0
    have : ps = [] := List.eq_nil_of_length_eq_zero hn
    subst this
    exact (AnyF.slices_SortFunc_none sortW none 0 _ w).mono fun e w' ⟨he, hw⟩ => by
      subst hw
      exact ⟨he, h, Below.refl _ _⟩
  · have hl : (w0 ps).length = n := by rw [w0, List.length_map]; exact hn
    have hgs : g < w.heap.size := (Array.getElem?_eq_some_iff.1 hg).1
    have hcon := AnyQ.slices_SortFunc sortW 3 Try.isAgg60 Try.sizeOf60 encW encW_len encW_one cfW (swo_or (fun x : Wn => (x.2.1 : Int)) (fun x : Wn => (x.1 : Int))) 85 #[] g 0 cap (w0 ps).toArray w entersW (cmpLaysW g 0 _ w) (own_holdsK encW 3 encW_len (w0 ps) h hl) hgs (by simp [hl]; omega)
    have es : (w0 ps).toArray.size = n := by simp [hl]
    rw [es] at hcon
    refine hcon.mono ?_
    rintro e w' ⟨he, d', m, os, hP, hS, rfl⟩
    obtain ⟨p1, p2⟩ := perm_list (by rw [es]; exact hP) (by rw [es]; exact hS)
    have hd : d'.toList = w0 (wsort ps) := by
      have hz : ∀ x ∈ d'.toList, x.2.2 = 0 := fun x hx => by
        have := p1.subset hx
        simp [w0] at this
        obtain ⟨a, b, _, rfl⟩ := this
        rfl
      have hm : d'.toList.map (fun x => (x.1, x.2.1)) = wsort ps := by
        refine wsort_uniq ?_ ?_
        · have := p1.map (fun x : Wn => (x.1, x.2.1))
          rw [List.toList_toArray] at this
          have e2 : (w0 ps).map (fun x : Wn => (x.1, x.2.1)) = ps := by simp [w0, Function.comp_def]
          rwa [e2] at this
        · refine List.pairwise_map.2 (p2.imp fun {x y} hxy => ?_)
          unfold ltOf cfW at hxy
          rw [decide_eq_false_iff_not, orI_lt] at hxy
          unfold wle
          simp only
          omega
      rw [← hm, w0, List.map_map]
      conv => lhs; rw [← List.map_id d'.toList]
      refine List.map_congr_left fun x hx => ?_
      have := hz x hx
      obtain ⟨a, b, c⟩ := x
      simp at this
      subst this
      rfl
    have hl' : (w0 (wsort ps)).length = n := by rw [w0, List.length_map, (wsort_perm ps).length_eq]; exact hn
    have e3 : d' = (w0 (wsort ps)).toArray := by rw [← hd]
    rw [e3]
    exact ⟨he, put_own encW 3 encW_len (w0 ps) (w0 (wsort ps)) h hl hl' m os⟩

/-- New cells, read one by one. -/
theorem news_row (w : World) (vs : List Value) (T : TypeId) : ∀ j u, vs[j]? = some u → (w.alloc (.cells vs.toArray T)).cell? ((⟨w.heap.size, 0, none⟩ : Addr).add j) = some u := by
  intro j u hu
  have ha : (⟨w.heap.size, 0, none⟩ : Addr).add j = ⟨w.heap.size, 0 + j, none⟩ := by unfold Addr.add; split <;> simp_all
  rw [ha, cell_at (World.alloc_heap_new w (.cells vs.toArray T)), Nat.zero_add]
  simpa using hu
theorem grown_low {w w' : World} {B : Nat} {v : Value} {n k : Nat} {T : TypeId} {xs : List Value} (h : w.grownBy w' v.ownBlock) (ho : w.ownsRow B T k v n xs) (hB : B ≤ w.heap.size) : Below B w w' := by
  refine ⟨h.os, h.tape, h.output, h.size, fun j hj => h.block j (by omega) ?_⟩
  intro e
  rcases ho.2 with ⟨rfl, _⟩ | ⟨g, cap, cur, rfl, hb, _⟩
  · simp [Value.ownBlock] at e
  · simp only [Value.ownBlock, Option.some.injEq] at e
    omega
theorem w0_snoc (U : List Wd) (p : Wd) : (w0 (U ++ [p])).flatMap encW = (w0 U).flatMap encW ++ encW (p.1, p.2, 0) := by simp [w0]
/-- At each round's head: the words of the first i. -/
def SwRel (l : List Nat) (w : World) (v p : Value) (wr : World) : Prop :=
  ∃ i : Nat, i ≤ l.length ∧ p = .int .i64 (i : Int) ∧ wr.ownsRow w.heap.size 60 3 v (uws 0 (l.take i)).length ((w0 (uws 0 (l.take i))).flatMap encW) ∧ Below w.heap.size w wr

set_option maxHeartbeats 1000000 in
theorem sorted_ok (l : List Nat) (n : Nat) (hn : l.length = n) (h64 : n ≤ 64) (A : Option Addr) (c : Nat) (w : World) (h : RdV w w.heap.size A (zc (ns l))) :
    Calls Try.prog 69 #[.slice A n c] w fun e w' => ∃ v, e = .returned v ∧ w'.ownsRow w.heap.size 60 3 v (uws 0 l).length ((w0 (wsort (uws 0 l))).flatMap encW) ∧ Below w.heap.size w w' := by
  obtain ⟨i0, hi, hz0, hz1, hz2⟩ := info_parts info_word
  have HR := Lib.hid h; clear h
  have HN := Lib.hid hn; clear hn
  have H64 : Hid ((uws 0 l).length ≤ 64) := by have := uws_len l 0; show _ ≤ _; rw [HN.out] at this; omega
  go_enter Try.func69, Try.ntmps69
  go_wp2
  go_loopw [3, 8] (fun v p wr => SwRel l w v p wr) (fun _ p _ => n - (intOf p).toNat)
  case atStart => exact ⟨0, Nat.zero_le _, rfl, ⟨rfl, .inl ⟨rfl, rfl⟩⟩, Below.refl _ _⟩
  case round =>
    obtain ⟨i, hi', rfl, hrow, hbel⟩ := hrel
    rw [HN.out] at hi'
    by_cases hlt : i < n
    · have hin : i < l.length := by rw [HN.out]; exact hlt
      have hR := HR.out.below hbel hbel.size
      obtain ⟨b, off, rfl, hb, hc⟩ := hR.at_ (ns_get l i hin)
      have htk := uws_take l i hin
      have hul := uws_len (l.take i) 0
      rw [List.length_take] at hul
      have HB := Lib.hid hbel; clear hbel hR
      generalize uws 0 (l.take i) = U at *
      generalize l[i]?.getD 0 = x at *
      by_cases hx : x = 0
      · subst hx
        rw [if_pos rfl, List.append_nil] at htk
        have HT := Lib.hid htk; clear htk
        have HO := Lib.hid hrow; clear hrow
        go_wp2
        go_roundw
        case rel => exact ⟨i + 1, by rw [HN.out]; omega, by go_num, by rw [HT.out]; exact HO.out, HB.out⟩
        case measure => simp [intOf]; omega
      · rw [if_neg hx] at htk
        have HT := Lib.hid htk; clear htk
        have hx0 : 0 < x := by omega
        have t0 : decide ((0 : Int) < (x : Int)) = true := by simp; omega
        clear hx
        go_wp2_with (at_builtin; refine wpList_append_own _ rfl _ _ 55 rfl w.heap.size 60 i0 (.agg #[.int .i64 0, .int .i64 0, .int .u64 0]) 3 24 Try.underlying55 hi hz0 hz1 hz2 rfl (by decide) _ _ _ rfl (hrow.alloc _) ⟨wr.heap.size, 0, none⟩ 1 1 (encW (i, x, 0)) rfl rfl (news_row wr (encW (i, x, 0)) _) (encW_one _) (by unfold maxLen; omega) (by omega) (by have := HB.out.size; simp; omega) ?_; intro v' w3 hown' hgrow _)
        have HO3 := Lib.hid hown'
        have HB3 : Hid (Below w.heap.size w w3) := HB.out.trans (((Below.refl w.heap.size wr).alloc HB.out.size _).trans (grown_low hgrow (hrow.alloc _) (by have := HB.out.size; simp; omega)))
        clear hown' hgrow hrow
        go_roundw
        case rel => exact ⟨i + 1, by rw [HN.out]; omega, by go_num, by rw [HT.out, w0_snoc, List.length_append]; exact HO3.out, HB3.out⟩
        case measure => simp [intOf]; omega
    · have ht : l.take i = l := List.take_of_length_le (by rw [HN.out]; omega)
      rw [ht] at hrow
      have hrow' := sortW_any (uws 0 l) _ rfl H64.out w.heap.size _ wr hrow
      have HS := Lib.hid hrow'
      have HB := Lib.hid hbel
      clear hrow hrow' hbel ht
      go_wp2_with fail
      refine HS.out.mono ?_
      rintro e w2 ⟨rfl, o2, b2⟩
      have HO2 := Lib.hid o2; have HB2 := Lib.hid (HB.out.trans b2); clear o2 b2
      go_wp2
      go_ret
      exact ⟨_, rfl, HO2.out, HB2.out⟩
end Go.Proofs.Ythfjfkbolfnkkaa
