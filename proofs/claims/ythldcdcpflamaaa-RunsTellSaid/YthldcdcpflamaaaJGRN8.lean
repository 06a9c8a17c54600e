/- What Split answers, for whatever list and number it is handed. -/
import Derived.Test.YthldcdcpflamaaaJGRN7
import Derived.Maps.OwnIn
import Derived.Stop.RegionWithIn
namespace Go.Proofs.Ythldcdcpflamaaa
set_option linter.unusedVariables false
open Go.RowKit Go.Shelf

attribute [local go_sem] Oper.semAt_some

/-- Runs, numbers and an error come back. -/
def SpP (w : World) (R : List Ri) (l : List Nat) (err : Int) (e : Ending) (w' : World) : Prop :=
  ∃ A1 c1 A2 c2, e = .returned (.tuple #[.slice A1 R.length c1, .slice A2 l.length c2, .int .i64 err]) ∧ (R.length ≤ c1 ∧ (A1 = none → c1 = 0)) ∧ (l.length ≤ c2 ∧ (A2 = none → c2 = 0)) ∧ RdV w' w'.heap.size A1 (rcs R) ∧ RdV w' w'.heap.size A2 (zc (ns l)) ∧ Below w.heap.size w w'
/-- The same, in rows of the call's own. -/
def SpO (w : World) (R : List Ri) (l : List Nat) (err : Int) (e : Ending) (w' : World) : Prop :=
  ∃ A1 c1 A2 c2, e = .returned (.tuple #[.slice A1 R.length c1, .slice A2 l.length c2, .int .i64 err]) ∧ w'.ownsRow w.heap.size 60 2 (.slice A1 R.length c1) R.length (rcs R) ∧ w'.ownsRow w.heap.size 3 1 (.slice A2 l.length c2) l.length (zc (ns l)) ∧ Below w.heap.size w w'
def spE (xs : List Int) (k : Int) : Int := rgE (rchk xs) [decide (2 ≤ k), decide (k ≤ 300)]
theorem rd_lit {w w1 : World} {a b : Bool} (h : Below (w.heap.size + 1) (w.alloc (.cells #[.bool a, .bool b] 4)) w1) : RdV w1 w1.heap.size (some ⟨w.heap.size, 0, none⟩) (cc [a, b]) := by
  have e := (h.block w.heap.size (by omega)).trans (World.alloc_heap_new w (.cells #[.bool a, .bool b] 4))
  have hz : w.heap.size < w1.heap.size := (Array.getElem?_eq_some_iff.1 e).1
  refine .inr ⟨w.heap.size, 0, rfl, hz, fun i v hi => ?_⟩
  rw [Nat.zero_add, cell_at e]
  simpa [cc] using hi
theorem lng_len (k : Nat) (R : List Rn) : (lng k R).length ≤ R.length := List.length_filter_le _ _
theorem sht_len (k : Nat) : ∀ R : List Rb, (flatR (sht k (R.map (·.1)))).length ≤ 300 * R.length
  | [] => by simp [sht, flatR]
  | x :: R => by
    have ih := sht_len k R
    have hx := x.2.2
    have e : flatR (sht k ((x :: R).map (·.1))) = (if x.1.2 < k then nums x.1 else []) ++ flatR (sht k (R.map (·.1))) := by
      unfold sht
      rw [List.map_cons, List.filter_cons]
      by_cases h : x.1.2 < k
      · rw [if_pos (by simpa using h), if_pos h, flatR_cons]
      · rw [if_neg (by simpa using h), if_neg h, List.nil_append]
    rw [e, List.length_append, List.length_cons]
    split
    · rw [nums_length]; omega
    · simp; omega
theorem rz_snoc (R : List Rn) (p : Rn) : rz (R ++ [p]) = rz R ++ [((p.1 : Int), (p.2 : Int))] := by simp [rz]
theorem own_capT {w : World} {base size : Nat} {e : TypeId} {A : Option Addr} {n c : Nat} {vs : List Value} (h : w.ownsRow base e size (.slice A n c) n vs) : n ≤ c ∧ (A = none → c = 0) := by
  rcases h.2 with ⟨h, h2⟩ | ⟨g, cap, cur, h, _, _, h2, _⟩
  · simp only [Value.slice.injEq] at h
    exact ⟨by omega, fun _ => h.2.2⟩
  · simp only [Value.slice.injEq] at h
    exact ⟨by omega, fun hA => by rw [hA] at h; cases h.1⟩
theorem own_rdvT {w : World} {base size : Nat} {e : TypeId} {A : Option Addr} {n c : Nat} {vs : List Value} (h : w.ownsRow base e size (.slice A n c) n vs) : RdV w w.heap.size A vs := by
  rcases h.2 with ⟨_, h0⟩ | ⟨g, cap, cur, he, _, hg, _⟩
  · have := h.1
    rw [h0, Nat.zero_mul] at this
    exact .inl (List.eq_nil_of_length_eq_zero this)
  · simp only [Value.slice.injEq] at he
    obtain ⟨rfl, _, _⟩ := he
    refine .inr ⟨g, 0, rfl, (Array.getElem?_eq_some_iff.1 hg).1, fun i v hi => ?_⟩
    have hh := h.cells (g := g) rfl i v hi
    have ha : (⟨g, 0, none⟩ : Addr).add i = ⟨g, 0 + i, none⟩ := by unfold Addr.add; split <;> simp_all
    rw [ha] at hh
    exact hh
theorem ibox_at {w V : World} {a : Value} (h : Below (w.heap.size + 1) (w.alloc (.cells #[a] 3)) V) : V.cell? ⟨w.heap.size, 0, none⟩ = some a :=
  box_cell ((h.block w.heap.size (by omega)).trans (World.alloc_heap_new w (.cells #[a] 3)))
/-- Can runs be asked to have so many? -/
def okL (k : Int) : Bool := decide (2 ≤ k ∧ k ≤ 300)
set_option maxHeartbeats 400000 in
theorem atleast_any (k : Int) (w : World) : Calls Try.prog 62 #[.int .i64 k] w fun e w' => e = .returned (.bool (okL k)) ∧ w = w' := by
  by_cases h1 : 2 ≤ k
  · by_cases h2 : k ≤ 300
    · have e : okL k = true := by unfold okL; simp; omega
      have t1 : decide ((2 : Int) ≤ k) = true := by simp; omega
      have t2 : decide (k ≤ 300) = true := by simp; omega
      rw [e]
      go_enter Try.func62, Try.ntmps62
      go_wp2
      go_ret
      exact ⟨rfl, rfl⟩
    · have e : okL k = false := by unfold okL; simp; omega
      have t1 : decide ((2 : Int) ≤ k) = true := by simp; omega
      have t2 : decide (k ≤ 300) = false := by simp; omega
      rw [e]
      go_enter Try.func62, Try.ntmps62
      go_wp2
      go_ret
      exact ⟨rfl, rfl⟩
  · have e : okL k = false := by unfold okL; simp; omega
    have t1 : decide ((2 : Int) ≤ k) = false := by simp; omega
    rw [e]
    go_enter Try.func62, Try.ntmps62
    go_wp2
    go_ret
    exact ⟨rfl, rfl⟩
theorem rgE_least (e k : Int) : rgE e [okL k] = rgE e [decide (2 ≤ k), decide (k ≤ 300)] := by
  unfold rgE okL
  by_cases h1 : 2 ≤ k <;> by_cases h2 : k ≤ 300 <;> simp [h1, h2]
set_option maxRecDepth 100000 in
set_option maxHeartbeats 1000000 in
theorem split_e (xs : List Int) (n : Nat) (hn : xs.length = n) (hn2 : n ≤ 9223372036854775807) (k e0 : Int) (he : spE xs k = e0) (h0 : e0 ≠ 0) (A : Option Addr) (c : Nat) (w : World) (h : RdV w w.heap.size A (zc xs)) :
    Calls Try.prog 31 #[.slice A n c, .int .i64 k] w (SpP w [] [] e0) := by
  have HC : Hid (∀ V, Below w.heap.size w V → Calls Try.prog 23 #[.slice A n c] V fun e w' => e = .returned (.int .i64 (rchk xs)) ∧ Below V.heap.size V w') := fun V hV => gcheck_any xs n hn hn2 A c V (h.on hV)
  unfold spE at he
  rw [← rgE_least] at he
  have HLs := Lib.hid (atleast_any k)
  generalize rchk xs = ec at *
  generalize okL k = ok at *
  have HR := Lib.hid (range1 ec ok e0 he)
  have HE := Lib.hid he
  clear he h hn
  go_enter Try.func31, Try.ntmps31
  go_wp2_with fail
  generalize hV : w.alloc (.cells #[.int .i64 k] 3) = V0
  have HV : Hid (Below w.heap.size w V0) := hV ▸ one_below _ _
  have HK : Hid (∀ w' : World, Below V0.heap.size V0 w' → w'.cell? ⟨w.heap.size, 0, none⟩ = some (.int .i64 k)) := by
    subst hV
    exact fun w' h => ibox_at (by rwa [World.size_alloc] at h)
  clear hV
  go_region_held3 (fun w' => w'.cell? ⟨w.heap.size, 0, none⟩ = some (.int .i64 k))
    ((refine HK.out _ ?_; first | exact hk2.out | exact hk1.out.trans ((one_below _ _).mono hk1.out.size) | exact hk1.out | exact (one_below _ _).drew | exact (Below.refl _ _).drew))
    (first
      | (go_at_call 39; have hx := hk1.out; refine (HR.out w1 _ rfl).mono ?_; rintro e w2 ⟨rfl, B2⟩; have hk2 : Hid (Below V0.heap.size V0 w2) := hx.trans (B2.mono hx.size); clear B2 hx)
      | (go_at_call 62; have hx := hk1.out; refine (HLs.out w1).mono ?_; rintro e wq ⟨rfl, rfl⟩; clear hx)
      | (go_at_call 23; refine (HC.out V0.drew HV.out.drew).mono ?_; rintro e w1 ⟨rfl, B1⟩; have hk1 : Hid (Below V0.heap.size V0 w1) := ((Below.refl _ V0).drew).trans B1; clear B1))
  all_goals (
    have HB2 : Hid (Below w.heap.size w w2) := HV.out.trans (hk2.out.mono HV.out.size)
    have t0 : (e0 != 0) = true := by simpa using h0
    clear h0 HK hk1 hk2
    go_wp2
    go_ret3
    exact ⟨none, 0, none, 0, rfl, ⟨Nat.le_refl _, fun _ => rfl⟩, ⟨Nat.le_refl _, fun _ => rfl⟩, .inl rfl, .inl rfl, HB2.out⟩)

set_option maxRecDepth 100000 in
set_option maxHeartbeats 4000000 in
theorem split_own (l : List Nat) (hl : Rising l) (n : Nat) (hn : l.length = n) (k : Nat) (hk : 2 ≤ k) (hk2 : k ≤ 300) (A : Option Addr) (c : Nat) (hc : n ≤ c) (w : World) (h : RdV w w.heap.size A (zc (ns l))) :
    Calls Try.prog 31 #[.slice A n c, .int .i64 (k : Int)] w (SpO w (rz (lng k (rs l))) (flatR (sht k (rs l))) 0) := by
  have h300 : n ≤ 300 := by have := hl.1; omega
  have HC : Hid (∀ V, Below w.heap.size w V → Calls Try.prog 23 #[.slice A n c] V fun e w' => e = .returned (.int .i64 0) ∧ Below V.heap.size V w') := fun V hV => by
    have := gcheck_any (ns l) n (by rw [ns_length]; exact hn) (by omega) A c V (h.on hV)
    rwa [rchk_ok l hl] at this
  have HLs : Hid (∀ V, Calls Try.prog 62 #[.int .i64 (k : Int)] V fun e w' => e = .returned (.bool true) ∧ V = w') := fun V => by
    have e1 : okL (k : Int) = true := by unfold okL; simp; omega
    have := atleast_any (k : Int) V
    rwa [e1] at this
  have HE : Hid True := trivial
  have HR := Lib.hid (range1 0 true 0 rfl)
  have hle := fun x hx => (ris_le l _ hl.2 x hx).2
  obtain ⟨i0, hi, hz0, hz1, hz2⟩ := info_parts info_run
  have HX := Lib.hid h
  clear h
  refine (callsIn_wide (n := 6)).1 ?_
  refine callsIn_of_wp_marks Try.func31 rfl trivial ?_ rfl
  simp only [Try.ntmps31, List.size_toArray, List.length_cons, List.length_nil, Nat.reduceAdd, Nat.reduceSub, Array.replicate_succ, Array.replicate_zero, List.push_toArray, List.append_toArray, List.nil_append, List.cons_append]
  gi_wp2_with fail
  generalize hV : w.alloc (.cells #[.int .i64 (k : Int)] 3) = V0
  have HV : Hid (Below w.heap.size w V0 ∧ w.heap.size < V0.heap.size) := hV ▸ ⟨one_below _ _, by simp⟩
  have HK : Hid (∀ w' : World, Below V0.heap.size V0 w' → w'.cell? ⟨w.heap.size, 0, none⟩ = some (.int .i64 (k : Int))) := by
    subst hV
    exact fun w' h => ibox_at (by rwa [World.size_alloc] at h)
  clear hV
  refine wpIn_wide.2 ?_
  go_region_held3 (fun w' => w'.cell? ⟨w.heap.size, 0, none⟩ = some (.int .i64 (k : Int)))
    ((refine HK.out _ ?_; first | exact hk2.out | exact hk1.out.trans ((one_below _ _).mono hk1.out.size) | exact hk1.out | exact (one_below _ _).drew | exact (Below.refl _ _).drew))
    (first
      | (go_at_call 39; have hx := hk1.out; refine (HR.out w1 _ rfl).mono ?_; rintro e w2 ⟨rfl, B2⟩; have hk2 : Hid (Below V0.heap.size V0 w2) := hx.trans (B2.mono hx.size); clear B2 hx)
      | (go_at_call 62; have hx := hk1.out; refine (HLs.out w1).mono ?_; rintro e wq ⟨rfl, rfl⟩; clear hx)
      | (go_at_call 23; refine (HC.out V0.drew HV.out.1.drew).mono ?_; rintro e w1 ⟨rfl, B1⟩; have hk1 : Hid (Below V0.heap.size V0 w1) := ((Below.refl _ V0).drew).trans B1; clear B1))
  · skip
    have HB2 : Hid (Below w.heap.size w w2) := HV.out.1.trans (hk2.out.mono HV.out.1.size)
    have HKc := Lib.hid (HK.out w2 hk2.out)
    have hkw : w.heap.size < w2.heap.size := by have := HV.out.2; have := hk2.out.size; omega
    clear HK hk1 hk2 HV
    gi_wp2_with (first | (refine ⟨trivial, ?_⟩; gi_at_call 63; refine (runs_of 5 _ _ _ _).mono ?_; rintro e w' ⟨rfl, rfl⟩))
    have bL := ((Boxed.new w2 49 (.slice none 0 0)).alloc (.cells #[.slice none 0 0] 22)).alloc (.cells #[.slice A n c] 22)
    have bR := (Boxed.new (w2.alloc (.cells #[.slice none 0 0] 49)) 22 (.slice none 0 0)).alloc (.cells #[.slice A n c] 22)
    have bA := Boxed.new ((w2.alloc (.cells #[.slice none 0 0] 49)).alloc (.cells #[.slice none 0 0] 22)) 22 (.slice A n c)
    simp only [World.size_alloc] at bR bA
    have hB0 : Below w2.heap.size w2 (((w2.alloc (.cells #[.slice none 0 0] 49)).alloc (.cells #[.slice none 0 0] 22)).alloc (.cells #[.slice A n c] 22)) := (((Below.refl _ w2).alloc (Nat.le_refl _) _).alloc (by simp) _).alloc (by simp; omega) _
    have hsz : (((w2.alloc (.cells #[.slice none 0 0] 49)).alloc (.cells #[.slice none 0 0] 22)).alloc (.cells #[.slice A n c] 22)).heap.size = w2.heap.size + 3 := by simp
    obtain ⟨W0, hW0⟩ : ∃ W0, ((w2.alloc (.cells #[.slice none 0 0] 49)).alloc (.cells #[.slice none 0 0] 22)).alloc (.cells #[.slice A n c] 22) = W0 := ⟨_, rfl⟩
    rw [hW0] at bL bR bA hB0 hsz ⊢
    clear hW0
    have gd : Good w2.heap.size w2.heap.size (w2.heap.size + 1) W0 := good_of (size := 2) (n := 0) (e := 60) (xs := []) (Nat.le_refl _) (by omega) bL ⟨rfl, .inl ⟨rfl, rfl⟩⟩ bR
    have fr : Free w2.heap.size w2.heap.size (w2.heap.size + 1) W0 (w2.heap.size + 1 + 1) := ⟨by omega, .inr ⟨⟨_, _, _, bA, by decide⟩, by omega, by omega, fun q => by rw [ownB_box bL] at q; simp [Value.ownBlock] at q⟩⟩
    have hlow : Below w.heap.size w W0 := HB2.out.trans (hB0.mono HB2.out.size)
    have hRdA : RdV W0 w2.heap.size A (zc (ns l)) := HX.out.below hlow HB2.out.size
    have hkc : W0.cell? ⟨w.heap.size, 0, none⟩ = some (.int .i64 (k : Int)) := (hB0.cell (p := ⟨w.heap.size, 0, none⟩) hkw).trans HKc.out
    have HLow := Lib.hid hlow
    clear hlow hB0 HX HC HE HR HKc
    refine wpIn_rangeFunc_ownH rfl (by decide) (gf := 82) (lb := #[.pointer (some ⟨w2.heap.size + 1 + 1, 0, none⟩)]) rfl trivial (enters_of Try.func82 (by kernel_rfl) rfl)
      (runs_stops 5 (by decide) (w2.heap.size + 1 + 1) w2.heap.size w2.heap.size (w2.heap.size + 1) n c A l hn h300 hc hle W0 gd fr bA hRdA)
      (fun h k => kx_t h k) (fun W l o o' h1 h2 h3 h4 => kx_b (by omega) (by omega) (by omega) W l o o' h1 h2 h3 h4) (Below.refl _ _) (fun _ => rfl)
      (fun (pre : List Rb) X => ((∃ v, Boxed X w2.heap.size 49 v ∧ X.ownsRow w2.heap.size 60 2 v (lng k (pre.map (·.1))).length (rcs (rz (lng k (pre.map (·.1))))) ∧ True) ∧
        (∃ v, Boxed X (w2.heap.size + 1) 22 v ∧ X.ownsRow w2.heap.size 3 1 v (flatR (sht k (pre.map (·.1)))).length (zc (ns (flatR (sht k (pre.map (·.1)))))) ∧ True)) ∧ Below w2.heap.size W0 X)
      (fun _ _ _ => False)
      (OwnFrom.and (OwnFrom.and (Own.from (holdsRow_own w2.heap.size w2.heap.size 49 60 2 (fun pre : List Rb => (lng k (pre.map (·.1))).length) (fun pre : List Rb => rcs (rz (lng k (pre.map (·.1))))) (fun _ _ => True)) _)
        (Own.from (holdsRow_own w2.heap.size (w2.heap.size + 1) 22 3 1 (fun pre : List Rb => (flatR (sht k (pre.map (·.1)))).length) (fun pre : List Rb => zc (ns (flatR (sht k (pre.map (·.1)))))) (fun _ _ => True)) _)) (ownFrom_below (by omega) (by omega)))
      (fun _ _ _ _ _ hs _ _ => hs)
      ⟨⟨⟨_, bL, ⟨rfl, .inl ⟨rfl, rfl⟩⟩, trivial⟩, ⟨_, bR, ⟨rfl, .inl ⟨rfl, rfl⟩⟩, trivial⟩⟩, Below.refl _ _⟩
      (fun x a' W => ∃ Bx, W0.heap.size ≤ Bx ∧ W.heap[Bx]? = some (.cells #[.int .i64 (x.1.1 : Int), .int .i64 (x.1.2 : Int)] 60 (0, 0)) ∧ a' = { tmps := #[.slice A n c, .int .i64 (k : Int), undef, .pointer (some ⟨w.heap.size, 0, none⟩), .slice none 0 0, .slice none 0 0, .int .i64 0, .int .i64 0, .pointer (some ⟨w2.heap.size, 0, none⟩), .pointer (some ⟨w2.heap.size + 1, 0, none⟩), .pointer (some ⟨Bx, 0, none⟩), .slice A n c, .int .i64 0, .int .i64 (k : Int), .bool true, .slice (some ⟨w1.heap.size, 0, none⟩) 1 1, .int .i64 0, .int .i64 0, .bool false, undef, .slice A n c, .func (.func 82) #[] #[.pointer (some ⟨w2.heap.size + 1 + 1, 0, none⟩)], .agg #[.int .i64 (x.1.1 : Int), .int .i64 (x.1.2 : Int)], undef, undef, undef, undef, undef, undef, undef, undef, undef, undef, undef, undef, undef, undef], defers := [] })
      (fun x a' _ X Y row hs hg hr => by
        obtain ⟨Bx, h1, h2, h3⟩ := hs
        refine ⟨Bx, h1, (hg.block Bx (Array.getElem?_eq_some_iff.1 h2).1 (fun e => ?_)).trans h2, h3⟩
        obtain ⟨o, ho, hcl⟩ := (hr Bx e.symm).2
        rw [h2] at ho; cases ho; cases hcl)
      ?assign ?body ?done ?stop
    case assign =>
      rintro lp pre x W K ⟨⟨⟨v1, b1, r1, -⟩, ⟨v2, b2, r2, -⟩⟩, hB⟩ hK
      dsimp only [encRb]
      gi_wp2
      exact hK _ _ ((KeepsOthers.alloc _ _).from _) (kx_below (one_below W _)) ⟨⟨⟨v1, b1.alloc _, r1.alloc _, trivial⟩, ⟨v2, b2.alloc _, r2.alloc _, trivial⟩⟩, hB.alloc (by have := hB.size; omega) _⟩ ⟨W.heap.size, hB.size, World.alloc_heap_new W _, rfl⟩
    case body =>
      rintro lp pre x a' X hl hrec ⟨⟨⟨v1, b1, r1, -⟩, ⟨v2, b2, r2, -⟩⟩, hB⟩ ⟨Bx, hBx, hx, rfl⟩ hlt
      have p0 : X.cell? ⟨Bx, 0, none⟩ = some (.int .i64 (x.1.1 : Int)) := (cell_at hx 0).trans rfl
      have p1 : X.cell? ⟨Bx, 1, none⟩ = some (.int .i64 (x.1.2 : Int)) := (cell_at hx 1).trans rfl
      have kc : X.cell? ⟨w.heap.size, 0, none⟩ = some (.int .i64 (k : Int)) := (hB.cell (p := ⟨w.heap.size, 0, none⟩) hkw).trans hkc
      have hn1 := lng_len k (pre.map (·.1))
      have hn2 := sht_len k pre
      have e1 : (pre ++ [x]).map (·.1) = pre.map (·.1) ++ [x.1] := by simp
      have hls := lng_snoc k (pre.map (·.1)) x.1
      have hss := sht_snoc k (pre.map (·.1)) x.1
      rw [← e1] at hls hss
      rw [List.length_map] at hn1
      obtain ⟨A1, c1, rfl⟩ := own_sliceT r1
      obtain ⟨A2, c2, rfl⟩ := own_slice3 r2
      have cv1 := b1.cell
      have fv1 := b1.frozen
      have cv2 := b2.cell
      have fv2 := b2.frozen
      generalize pre.map (·.1) = pr at *
      obtain ⟨⟨f, m⟩, hf, hm⟩ := x
      simp only at *
      by_cases hlong : k ≤ m
      · rw [if_pos hlong] at hls hss
        rw [List.append_nil] at hss
        have t1 : decide ((k : Int) ≤ (m : Int)) = true := by simp; omega
        have t2 : decide (k ≤ m) = true := by simpa using hlong
        have HL := Lib.hid hls
        have HS := Lib.hid hss
        clear hls hss hlong e1
        generalize hln : (lng k pr).length = n1 at *
        have HLn := Lib.hid hln
        clear hln
        gi_wp2_with (gi_at_builtin; refine wpListIn_append_own_at _ rfl _ _ 49 rfl w2.heap.size 60 i0 (.agg #[.int .i64 0, .int .i64 0]) 2 16 Try.underlying49 hi hz0 hz1 hz2 rfl (by decide) _ _ _ rfl (r1.alloc _) ⟨X.heap.size, 0, none⟩ 1 1 [.int .i64 (f : Int), .int .i64 (m : Int)] rfl rfl (news_row X [.int .i64 (f : Int), .int .i64 (m : Int)] _) (by simp [Value.oneCell']) (by unfold maxLen; omega) (by omega) (by have := b1.lt; simp; omega) ?_; intro v' w3 hown' hgrow _ hat; obtain ⟨g', cap', rfl⟩ := ownsRow_succ hown'; obtain ⟨e1, e2, HE⟩ := long_step (Nat.le_refl _) (Nat.le_succ _) (Nat.ne_of_lt (Nat.lt_succ_self _)) b1 r1 b2 r2 hgrow hown' hat; clear hgrow)
        obtain ⟨E1, E2, E3, E4, E5, E6⟩ := HE.out
        refine ⟨E6.others.from _, E1, ⟨⟨⟨_, E2, ?_, trivial⟩, ⟨_, E4, ?_, trivial⟩⟩, hB.trans (E6.below (fun j hj => hj))⟩⟩
        · rw [HL.out, List.length_append, HLn.out, rz_snoc, rcs_append]
          exact E3
        · rw [HS.out]; exact E5
      · rw [if_neg hlong] at hls hss
        rw [List.append_nil] at hls
        have t1 : decide ((k : Int) ≤ (m : Int)) = false := by simp; omega
        have t2 : decide (k ≤ m) = false := by simp; omega
        have HL := Lib.hid hls
        have HS := Lib.hid hss
        clear hls hss hlong e1
        generalize hln : (flatR (sht k pr)).length = n2 at *
        have HLn := Lib.hid hln
        clear hln
        have HD : Hid ((X.alloc (.cells #[.int .i64 (f : Int), .int .i64 (m : Int)] 60)).drew.ownsRow w2.heap.size 3 1 (.slice A2 n2 c2) n2 (zc (ns (flatR (sht k pr)))) ∧ (X.alloc (.cells #[.int .i64 (f : Int), .int .i64 (m : Int)] 60)).drew.heap[X.heap.size]? = some (.cells #[.int .i64 (f : Int), .int .i64 (m : Int)] 60 (0, 0)) ∧ w2.heap.size ≤ (X.alloc (.cells #[.int .i64 (f : Int), .int .i64 (m : Int)] 60)).drew.heap.size) :=
          ⟨r2.alloc _, World.alloc_heap_new X _, by have := b1.lt; show _ ≤ (X.alloc _).heap.size; simp; omega⟩
        have nw2 : (X.alloc (.cells #[.int .i64 (f : Int), .int .i64 (m : Int)] 60)).cell? ⟨w2.heap.size + 1, 0, none⟩ = some (.slice A2 n2 c2) := (b2.alloc _).cell
        have nw3 : (X.alloc (.cells #[.int .i64 (f : Int), .int .i64 (m : Int)] 60)).drew.cell? ⟨w2.heap.size + 1, 0, none⟩ = some (.slice A2 n2 c2) := (b2.alloc _).cell
        gi_wp2_with fail
        gi_region_with (first
          | (refine ⟨trivial, ?_⟩; refine (CallsIn.inRound _ (nums_of _ _ _ _)).mono ?_; rintro e w' ⟨rfl, rfl⟩)
          | (refine ⟨trivial, ?_⟩; refine (CallsIn.inRound _ (callsIn_wide.2 (appseq_in f m hf hm X.heap.size w2.heap.size (.slice A2 n2 c2) n2 (by omega) (zc (ns (flatR (sht k pr)))) (X.alloc (.cells #[.int .i64 (f : Int), .int .i64 (m : Int)] 60)).drew HD.out.1 HD.out.2.1 HD.out.2.2))).mono ?_; rintro e w3 ⟨v', rfl, hown', hfr⟩; obtain ⟨Av', cv', rfl⟩ := own_slice3 hown'; obtain ⟨e1, e2, HE⟩ := short_step (Nat.le_refl _) (Nat.le_succ _) (Nat.ne_of_lt (Nat.lt_succ_self _)) b1 r1 b2 ⟨hfr.os, hfr.tape, hfr.output, hfr.size, hfr.block, hfr.same⟩ hown'; clear hfr))
        all_goals (
          obtain ⟨E1, E2, E3, E4, E5, E6⟩ := HE.out
          refine ⟨E6.others.from _, E1, ⟨⟨⟨_, E2, ?_, trivial⟩, ⟨_, E4, ?_, trivial⟩⟩, hB.trans (E6.below (fun j hj => hj))⟩⟩
          · rw [HL.out]; exact E3
          · rw [HS.out, flatR_snoc, List.length_append, HLn.out, nums_length, ns_append, zc_append]
            exact E5)
    case done =>
      rintro D ys X hD hys ⟨⟨⟨v1, b1, r1, -⟩, ⟨v2, b2, r2, -⟩⟩, hB⟩ hK
      rw [hys] at r1 r2
      obtain ⟨A1, c1, rfl⟩ := own_sliceT r1
      obtain ⟨A2, c2, rfl⟩ := own_slice3 r2
      have cv1 := b1.cell
      have cv2 := b2.cell
      have HR1 : Hid ((X.putObj D (.deferred none)).ownsRow w.heap.size 60 2 (.slice A1 (lng k (rs l)).length c1) (lng k (rs l)).length (rcs (rz (lng k (rs l))))) := own_base (ownsRow_putObj r1 _ hK rfl) HB2.out.size
      have HR2 : Hid ((X.putObj D (.deferred none)).ownsRow w.heap.size 3 1 (.slice A2 (flatR (sht k (rs l))).length c2) (flatR (sht k (rs l))).length (zc (ns (flatR (sht k (rs l)))))) := own_base (ownsRow_putObj r2 _ hK rfl) HB2.out.size
      have HL : Hid (Below w.heap.size w (X.putObj D (.deferred none))) := (HLow.out.trans (hB.mono (by omega))).trans (belowK_b (w := w) (Nat.le_refl _) _ D _ _ (by omega) hK rfl rfl)
      clear r1 r2 b1 b2 hB
      gi_wp2_with fail
      refine wpIn_wide.2 ?_
      go_quiet (fail)
      gi_wp2
      refine ⟨by simp, .inl ⟨_, _, rfl, run_takeDeferred (w := X.drewN _) hK, ?_⟩⟩
      exact ⟨_, results_tmp3 rfl _ _ _, A1, c1, A2, c2, by rw [rz_length]; rfl, by rw [rz_length]; exact HR1.out, HR2.out, ⟨HL.out.os, HL.out.tape, HL.out.output, HL.out.size, HL.out.block⟩⟩
    case stop =>
      rintro D cd pre X hD hpre h hK
      exact h.elim
theorem spO {w : World} {R : List Ri} {l : List Nat} {err : Int} {e : Ending} {w' : World} (h : SpO w R l err e w') : SpP w R l err e w' := by
  obtain ⟨A1, c1, A2, c2, a, r1, r2, b⟩ := h
  exact ⟨A1, c1, A2, c2, a, own_capT r1, own_capT r2, own_rdvT r1, own_rdvT r2, b⟩
theorem split_in (l : List Nat) (hl : Rising l) (n : Nat) (hn : l.length = n) (k : Nat) (hk : 2 ≤ k) (hk2 : k ≤ 300) (A : Option Addr) (c : Nat) (hc : n ≤ c) (w : World) (h : RdV w w.heap.size A (zc (ns l))) :
    Calls Try.prog 31 #[.slice A n c, .int .i64 (k : Int)] w (SpP w (rz (lng k (rs l))) (flatR (sht k (rs l))) 0) :=
  (split_own l hl n hn k hk hk2 A c hc w h).mono fun _ _ h => spO h
/-- What a list is split into. -/
def spR (xs : List Int) (k : Int) : List Ri := if spE xs k = 0 then rz (lng k.toNat (rs (xs.map Int.toNat))) else []
def spL (xs : List Int) (k : Int) : List Nat := if spE xs k = 0 then flatR (sht k.toNat (rs (xs.map Int.toNat))) else []
theorem spE_zero (xs : List Int) (k : Int) (h : spE xs k = 0) : ∃ (l : List Nat) (m : Nat), xs = ns l ∧ Rising l ∧ k = (m : Int) ∧ 2 ≤ m ∧ m ≤ 300 := by
  unfold spE rgE at h
  by_cases h1 : rchk xs = 0
  · obtain ⟨l, e1, hl⟩ := rchk_zero xs h1
    rw [h1] at h
    have : ¬ ([decide (2 ≤ k), decide (k ≤ 300)].contains false = true) := fun q => by rw [if_pos ⟨rfl, q⟩] at h; omega
    simp at this
    exact ⟨l, k.toNat, e1, hl, by omega, by omega, by omega⟩
  · rw [if_neg (fun q => h1 q.1)] at h; exact absurd h h1
theorem spE_ok (l : List Nat) (h : Rising l) (m : Nat) (h1 : 2 ≤ m) (h2 : m ≤ 300) : spE (ns l) (m : Int) = 0 := by
  unfold spE
  rw [rchk_ok l h]
  have e1 : decide ((2 : Int) ≤ (m : Int)) = true := by simp; omega
  have e2 : decide ((m : Int) ≤ 300) = true := by simp; omega
  rw [e1, e2]; rfl
theorem spR_ok (l : List Nat) (h : Rising l) (m : Nat) (h1 : 2 ≤ m) (h2 : m ≤ 300) : spR (ns l) (m : Int) = rz (lng m (rs l)) ∧ spL (ns l) (m : Int) = flatR (sht m (rs l)) := by
  unfold spR spL
  rw [if_pos (spE_ok l h m h1 h2), if_pos (spE_ok l h m h1 h2), ns_nat, Int.toNat_natCast]
  exact ⟨rfl, rfl⟩
theorem spR_no (xs : List Int) (k : Int) (h : spE xs k ≠ 0) : spR xs k = [] ∧ spL xs k = [] := by
  unfold spR spL; rw [if_neg h, if_neg h]; exact ⟨rfl, rfl⟩
theorem split_any (xs : List Int) (n : Nat) (hn : xs.length = n) (hn2 : n ≤ 9223372036854775807) (k : Int) (A : Option Addr) (c : Nat) (hc : n ≤ c) (w : World) (h : RdV w w.heap.size A (zc xs)) :
    Calls Try.prog 31 #[.slice A n c, .int .i64 k] w (SpP w (spR xs k) (spL xs k) (spE xs k)) := by
  by_cases h0 : spE xs k = 0
  · obtain ⟨l, m, rfl, hl, rfl, h1, h2⟩ := spE_zero xs k h0
    obtain ⟨e1, e2⟩ := spR_ok l hl m h1 h2
    rw [e1, e2, h0]
    exact split_in l hl n (by rw [ns_length] at hn; exact hn) m h1 h2 A c hc w h
  · obtain ⟨e1, e2⟩ := spR_no xs k h0
    rw [e1, e2]
    exact split_e xs n hn hn2 k _ rfl h0 A c w h
end Go.Proofs.Ythldcdcpflamaaa
