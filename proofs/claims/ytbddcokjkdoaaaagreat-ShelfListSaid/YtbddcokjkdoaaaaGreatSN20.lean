/- Texts of this proof, one behind the other; each fact names its conditions. -/
import Derived.Test.YtbddcokjkdoaaaaGreatSN13
import Derived.Test.YtbddcokjkdoaaaaGreatSN14
import Derived.Test.YtbddcokjkdoaaaaGreatSN19
import Derived.Test.YtbddcokjkdoaaaaGreatSN7
namespace Go.Proofs.YtbddcokjkdoaaaaGreat
section
set_option maxRecDepth 100000
set_option linter.unusedVariables false
open Go.RowKit Go.Shelf
def GvB (w : World) (len : Int) (n : Nat) (bs : List Nat) (e : Ending) (w' : World) : Prop :=
  ∃ A c, e = .returned (.agg #[.int .i64 len, .slice A n c]) ∧ Rd w' w'.heap.size A bs ∧ Below w.heap.size w w'
structure GrR (g : List (List Nat)) (R : List Rw) : Prop where
  ok : GOk g
  eq : gs R = g.map ns
  cap : ∀ r ∈ R, r.2.2.length ≤ r.2.1
theorem GrR.len {g : List (List Nat)} {R : List Rw} (h : GrR g R) : R.length = g.length := by
  have := congrArg List.length h.eq
  rwa [gs_length, List.length_map] at this
theorem GrR.row {g : List (List Nat)} {R : List Rw} (h : GrR g R) (i : Nat) : (R[i]?.getD (none, 0, [])).2.2 = ns (row g i) := by
  have hl := h.len
  by_cases hi : i < R.length
  · have e : (gs R)[i]? = (g.map ns)[i]? := by rw [h.eq]
    unfold gs at e
    rw [List.getElem?_map, List.getElem?_map, List.getElem?_eq_getElem hi, List.getElem?_eq_getElem (by omega : i < g.length)] at e
    simp only [Option.map_some, Option.some.injEq] at e
    unfold Go.Proofs.YtbddcokjkdoaaaaGreat.row
    rw [List.getElem?_eq_getElem hi, List.getElem?_eq_getElem (by omega : i < g.length)]
    exact e
  · unfold Go.Proofs.YtbddcokjkdoaaaaGreat.row
    rw [List.getElem?_eq_none (by omega), List.getElem?_eq_none (by omega : g.length ≤ i)]; rfl
def refR (R : List Rw) (i r : Nat) : Rw := if r = 0 then (none, 0, []) else R[i - r]?.getD (none, 0, [])
theorem refR_row {g : List (List Nat)} {R : List Rw} (h : GrR g R) (i r : Nat) : (refR R i r).2.2 = ns (ndF g i r) := by
  unfold refR ndF
  by_cases h0 : r = 0
  · rw [if_pos h0, if_pos h0]; rfl
  · rw [if_neg h0, if_neg h0]; exact h.row _
theorem refR_rd {w : World} {B : Nat} {A : Option Addr} {R : List Rw} (h : RdG w B A R) (i r : Nat) : RdV w B (refR R i r).1 (zc (refR R i r).2.2) := by
  unfold refR
  by_cases h0 : r = 0
  · rw [if_pos h0]; exact .inl rfl
  · rw [if_neg h0]
    by_cases hi : i - r < R.length
    · exact (h.2 _ (rw_mem R _ hi)).1
    · rw [List.getElem?_eq_none (by omega)]; exact .inl rfl
theorem nodeW {g : List (List Nat)} {R : List Rw} (h : GrR g R) (ls k : Nat) (hls : ls = 0 ∨ 2 ≤ ls ∧ ls ≤ 300) (hk : 1 ≤ k) (hk2 : k ≤ 16) (i r : Nat) (hi : i < g.length) (hr : r ≤ min 7 i) (A A1 A2 : Option Addr) (n1 n2 c1 c2 : Nat) (x1 x2 : List Int) (e1 : R[i]?.getD (none, 0, []) = (A1, c1, x1)) (e2 : refR R i r = (A2, c2, x2)) (hn1 : x1.length = n1) (hn2 : x2.length = n2) (L : List Bool) (hL : sbits i r ls k (row g i) (ndF g i r) = L) (w : World) (hG : RdG w w.heap.size A R) :
    Calls Tryz.prog 13 #[.int .i64 (i : Int), .slice A1 n1 c1, .slice A2 n2 c2, .agg #[.int .i64 (r : Int), .int .i64 (ls : Int), .int .i64 (k : Int)]] w (Gv w (L.length : Int) (pack L).length (pack L) 0) := by
  have hl := h.len
  have q1 := h.row i
  rw [e1] at q1
  have q2 := refR_row h i r
  rw [e2] at q2
  simp only at q1 q2
  have hx1 := rw_mem R i (by omega)
  have hc := h.cap _ hx1
  have h1 := (hG.2 _ hx1).1
  rw [e1] at hc h1
  have h2 := refR_rd hG i r
  rw [e2] at h2
  simp only at hc h1 h2
  subst hL
  have hb := ndB_room 7 ls k (by omega) hk hk2 g h.ok i r hi hr
  have hrs := gok_rows h.ok
  have hy : r ≠ 0 → rchk (ns (ndF g i r)) = 0 := fun h0 => rchk_ok _ (ndF_rising hrs i r h0)
  have hn := h.ok.nodes
  obtain ⟨z1, z2⟩ := swF_in i (by omega) (row g i) (row_rising hrs i) r ls k (by omega) hls hk hk2 (ns (ndF g i r)) hy (by rw [tn_ns]; omega)
  rw [tn_ns] at z2
  subst q1
  subst q2
  have hw := swrite_any (i : Int) (ns (row g i)) n1 hn1 (by rw [← hn1, ns_length]; have := (row_rising hrs i).1; omega) (ns (ndF g i r)) n2 hn2 (by
    rw [← hn2, ns_length]
    by_cases h0 : r = 0
    · unfold ndF; rw [if_pos h0]; exact Nat.zero_le _
    · have := (ndF_rising hrs i r h0).1; omega) (r : Int) (ls : Int) (k : Int) A1 A2 c1 c2 (by omega) w h1 h2
  rw [z1, z2] at hw
  exact hw
theorem gvb_store {w w1 : World} {len : Int} {n : Nat} {bs : List Nat} {A : Option Addr} {c r : Nat} (R1 : Rd w1 w1.heap.size A bs) (hr : w.heap.size ≤ r) (hrb : w1.heap[r]? = some (.cells #[.int .i64 0, .slice none 0 0] 27 (0, 0))) (hlow : Below w.heap.size w w1) :
    GvB w len n bs (.returned (.agg #[.int .i64 len, .slice A n c])) ((w1.setCell ⟨r, 0, none⟩ (.int .i64 len)).setCell ⟨r, 1, none⟩ (.slice A n c)) := by
  refine ⟨A, c, rfl, ?_, (hlow.setCell (p := ⟨r, 0, none⟩) hr _).setCell (p := ⟨r, 1, none⟩) hr _⟩
  have r1 := R1.setK (i := 0) (.int .i64 len) hrb
  have hr2 : (w1.setCell ⟨r, 0, none⟩ (.int .i64 len)).heap[r]? = some (.cells #[.int .i64 len, .slice none 0 0] 27 (0, 0)) := by
    rw [heap_set_same _ _ _ _ 27 _ hrb]; simp
  have r2 := r1.setK (i := 1) (.slice A n c) hr2
  have e : ((w1.setCell ⟨r, 0, none⟩ (.int .i64 len)).setCell ⟨r, 1, none⟩ (.slice A n c)).heap.size = w1.heap.size := by simp [World.setCell]
  rw [e]
  exact r2
theorem enc_at {w : World} {P bA oA i : Nat} {B ls k : Nat} {A1 : Option Addr} {n1 c1 : Nat} (hP : P < w.heap.size) (hA : bA < w.heap.size)
    (h1 : w.cell? ⟨P, 1, none⟩ = some (.int .i64 (B : Int))) (h2 : w.cell? ⟨P, 2, none⟩ = some (.int .i64 (ls : Int))) (h3 : w.cell? ⟨P, 3, none⟩ = some (.int .i64 (k : Int))) (h4 : w.cell? ⟨bA, oA + i, none⟩ = some (.slice A1 n1 c1)) :
    ∀ V, Below w.heap.size w V → V.cell? ⟨P, 1, none⟩ = some (.int .i64 (B : Int)) ∧ V.cell? ⟨P, 2, none⟩ = some (.int .i64 (ls : Int)) ∧ V.cell? ⟨P, 3, none⟩ = some (.int .i64 (k : Int)) ∧ V.cell? ⟨bA, oA + i, none⟩ = some (.slice A1 n1 c1) := fun V hV =>
  ⟨(hV.cell (p := ⟨P, 1, none⟩) hP).trans h1, (hV.cell (p := ⟨P, 2, none⟩) hP).trans h2, (hV.cell (p := ⟨P, 3, none⟩) hP).trans h3, (hV.cell (p := ⟨bA, oA + i, none⟩) hA).trans h4⟩
structure E9 (w1 W : World) (b : Nat) (len : Int) (A : Option Addr) (n c : Nat) (bs : List Nat) : Prop where
  low : Below w1.heap.size w1 W
  ge : w1.heap.size ≤ b
  row : W.heap[b]? = some (.cells #[.int .i64 len, .slice A n c] 27 (0, 0))
  rd : Rd W W.heap.size A bs
theorem E9.cells {w1 W : World} {b : Nat} {len : Int} {A : Option Addr} {n c : Nat} {bs : List Nat} (h : E9 w1 W b len A n c bs) : W.cell? ⟨b, 0, none⟩ = some (.int .i64 len) ∧ W.cell? ⟨b, 1, none⟩ = some (.slice A n c) := ⟨(cell_at h.row 0).trans rfl, (cell_at h.row 1).trans rfl⟩
theorem E9.lt {w1 W : World} {b : Nat} {len : Int} {A : Option Addr} {n c : Nat} {bs : List Nat} (h : E9 w1 W b len A n c bs) : b < W.heap.size := (Array.getElem?_eq_some_iff.1 h.row).1
theorem E9.on {w1 W V : World} {b : Nat} {len : Int} {A : Option Addr} {n c : Nat} {bs : List Nat} (h : E9 w1 W b len A n c bs) (hb : Below W.heap.size W V) : E9 w1 V b len A n c bs :=
  ⟨h.low.trans (hb.mono h.low.size), h.ge, (hb.block _ h.lt).trans h.row, h.rd.below hb hb.size⟩
theorem e9_set {w1 w6 : World} {b : Nat} {len : Int} {A : Option Addr} {n c : Nat} {bs : List Nat} (low : Below w1.heap.size w1 w6) (ge : w1.heap.size ≤ b) (hz : w6.heap[b]? = some (.cells #[.int .i64 0, .slice none 0 0] 27 (0, 0))) (R1 : Rd w6 w6.heap.size A bs) :
    E9 w1 ((w6.setCell ⟨b, 0, none⟩ (.int .i64 len)).setCell ⟨b, 1, none⟩ (.slice A n c)) b len A n c bs := by
  have r1 := R1.setK (i := 0) (.int .i64 len) hz
  have hr2 : (w6.setCell ⟨b, 0, none⟩ (.int .i64 len)).heap[b]? = some (.cells #[.int .i64 len, .slice none 0 0] 27 (0, 0)) := by
    rw [heap_set_same _ _ _ _ 27 _ hz]; simp
  have r2 := r1.setK (i := 1) (.slice A n c) hr2
  have e : ((w6.setCell ⟨b, 0, none⟩ (.int .i64 len)).setCell ⟨b, 1, none⟩ (.slice A n c)).heap.size = w6.heap.size := by simp [World.setCell]
  refine ⟨(low.setCell (p := ⟨b, 0, none⟩) ge _).setCell (p := ⟨b, 1, none⟩) ge _, ge, ?_, ?_⟩
  · rw [heap_set_same _ _ _ _ 27 _ hr2]; simp
  · rw [e]; exact r2
theorem e9_new {w1 w6 : World} {len : Int} {A : Option Addr} {n c : Nat} {bs : List Nat} (low : Below w1.heap.size w1 w6) (R1 : Rd w6 w6.heap.size A bs) :
    E9 w1 (w6.alloc (.cells #[.int .i64 len, .slice A n c] 27)) w6.heap.size len A n c bs :=
  ⟨low.trans ((one_below w6 _).mono low.size), low.size, World.alloc_heap_new w6 _, R1.below (one_below w6 _) (by rw [World.size_alloc]; omega)⟩
theorem e9_store {w w1 W : World} {b : Nat} {len : Int} {A : Option Addr} {n c : Nat} {bs : List Nat} (h : E9 w1 W b len A n c bs) (hrb : W.heap[w.heap.size]? = some (.cells #[.int .i64 0, .slice none 0 0] 27 (0, 0))) (hlow : Below w.heap.size w W) :
    GvB w len n bs (.returned (.agg #[.int .i64 len, .slice A n c])) ((W.setCell ⟨w.heap.size, 0, none⟩ (.int .i64 len)).setCell ⟨w.heap.size, 1, none⟩ (.slice A n c)) := gvb_store h.rd (Nat.le_refl _) hrb hlow
set_option maxHeartbeats 4000000 in
theorem encode_ok {g : List (List Nat)} {R : List Rw} (h : GrR g R) (N : Nat) (hN : R.length = N) (B ls k : Nat) (hB : B ≤ 7) (hls : ls = 0 ∨ 2 ≤ ls ∧ ls ≤ 300) (hk : 1 ≤ k) (hk2 : k ≤ 16) (i r : Nat) (hi : i < N) (hr : r ≤ min B i) (P : Nat) (A : Option Addr) (c : Nat) (L : List Bool) (hL : ndB B ls k g i r = L) (w : World) (hG : RdG w w.heap.size A R) (hP : P < w.heap.size)
    (h1 : w.cell? ⟨P, 1, none⟩ = some (.int .i64 (B : Int))) (h2 : w.cell? ⟨P, 2, none⟩ = some (.int .i64 (ls : Int))) (h3 : w.cell? ⟨P, 3, none⟩ = some (.int .i64 (k : Int))) :
    Calls Tryz.prog 197 #[.pointer (some ⟨P, 0, none⟩), .int .i64 (i : Int), .int .i64 (r : Int), .slice A N c] w (GvB w (L.length : Int) (pack L).length (pack L)) := by
  have hl := h.len
  have hn := h.ok.nodes
  obtain ⟨⟨A1, c1, x1⟩, e1⟩ : ∃ q, R[i]?.getD (none, 0, []) = q := ⟨_, rfl⟩
  obtain ⟨⟨A2, c2, x2⟩, e2⟩ : ∃ q, refR R i r = q := ⟨_, rfl⟩
  obtain ⟨bA, oA, hA, hbA, hcA⟩ : ∃ b off, A = some ⟨b, off, none⟩ ∧ b < w.heap.size ∧ w.cell? ⟨b, off + i, none⟩ = some (.slice A1 x1.length c1) := by
    rcases hG.1 with e | ⟨b, off, e, hb, hc⟩
    · have := congrArg List.length e
      rw [rcl_length, List.length_nil] at this; omega
    · exact ⟨b, off, e, hb, by have := hc _ _ (rcl_get R i (by omega)); rwa [e1] at this⟩
  obtain ⟨n1, hn1⟩ : ∃ n1, x1.length = n1 := ⟨_, rfl⟩
  obtain ⟨n2, hn2⟩ : ∃ n2, x2.length = n2 := ⟨_, rfl⟩
  rw [hn1] at hcA
  obtain ⟨Lw, hLw⟩ : ∃ Lw, sbits i r ls k (row g i) (ndF g i r) = Lw := ⟨_, rfl⟩
  have hroom := ndB_room B ls k hB hk hk2 g h.ok i r (by omega) hr
  rw [hLw, hL] at hroom
  have HCell := Lib.hid (enc_at hP hbA h1 h2 h3 hcA)
  have HWr : Hid (∀ V, Below w.heap.size w V → Calls Tryz.prog 13 #[.int .i64 (i : Int), .slice A1 n1 c1, .slice A2 n2 c2, .agg #[.int .i64 (r : Int), .int .i64 (ls : Int), .int .i64 (k : Int)]] V (Gv V (Lw.length : Int) (pack Lw).length (pack Lw) 0)) := fun V hV =>
    nodeW h ls k hls hk hk2 i r (by omega) (by omega) A A1 A2 n1 n2 c1 c2 x1 x2 e1 e2 hn1 hn2 Lw hLw V (hG.on hV)
  have HRf : Hid (∀ V, Below w.heap.size w V → Calls Tryz.prog 235 #[.int .i64 (i : Int), .int .i64 (r : Int), .slice A N c] V fun e w' => e = .returned (.slice A2 n2 c2) ∧ w' = V) := fun V hV => by
    have hh := refer_any R N hN (by omega) A c i r hi (by omega) V (hG.on hV)
    have e : (if r = 0 then Value.slice none 0 0 else sl (R[i - r]?.getD (none, 0, []))) = .slice A2 n2 c2 := by
      have : sl (refR R i r) = .slice A2 n2 c2 := by rw [e2, ← hn2]; rfl
      rw [← this]; unfold refR
      by_cases h0 : r = 0
      · rw [if_pos h0, if_pos h0]; rfl
      · rw [if_neg h0, if_neg h0]
    rw [e] at hh
    exact hh
  have HWi : Hid (∀ V : World, Calls Tryz.prog 167 #[.agg #[.int .i64 (B : Int), .int .i64 (ls : Int), .int .i64 (k : Int)], .int .i64 (r : Int)] V fun e w' => e = .returned (.agg #[.int .i64 (r : Int), .int .i64 (ls : Int), .int .i64 (k : Int)]) ∧ Below V.heap.size V w') := fun V => with_any B ls k r V
  obtain ⟨w1, ew1⟩ : ∃ w1, w.alloc (.cells #[.int .i64 0, .slice none 0 0] 27) = w1 := ⟨_, rfl⟩
  have s1 : w1.heap.size = w.heap.size + 1 := ew1 ▸ World.size_alloc _ _
  have hb1 : Below w.heap.size w w1 := ew1 ▸ one_below w _
  have hr1 : w1.heap[w.heap.size]? = some (.cells #[.int .i64 0, .slice none 0 0] 27 (0, 0)) := ew1 ▸ World.alloc_heap_new w _
  have HB1 := Lib.hid hb1
  have HR1 := Lib.hid hr1
  have HS1 := Lib.hid s1
  obtain ⟨k1, k2, k3, k4⟩ := HCell.out w1 hb1
  have t1 : (0 : Int) ≤ (i : Int) := by omega
  have t2 : (i : Int) < (N : Int) := by omega
  have HHi : Hid (B ≤ 7 ∧ r ≤ min B i) := ⟨hB, hr⟩
  have HLL : Hid (ndB B ls k g i r = L ∧ sbits i r ls k (row g i) (ndF g i r) = Lw ∧ Lw.length ≤ 8000 ∧ L.length ≤ 8007) := ⟨hL, hLw, hroom.1, hroom.2⟩
  have HL0 : Hid (B = 0 → L = Lw) := fun h0 => by rw [← hL, ← hLw]; unfold ndB; rw [if_pos h0]; rfl
  have HL1 : Hid (B ≠ 0 → L = gam r ++ Lw) := fun h0 => by rw [← hL, ← hLw]; unfold ndB; rw [if_neg h0]
  subst hA
  clear hroom hL hLw hG h1 h2 h3 hP hcA hbA e1 e2 hn1 hn2 hl hn h hls hk hk2 hB hr hb1 hr1 s1 x1 x2
  go_enter Tryz.func197, Tryz.ntmps197
  go_wp2
  clear ew1
  have HBZ : Hid (Below w.heap.size w (w1.drew.alloc (.cells #[.int .i64 0, .slice none 0 0] 27))) := HB1.out.drew.trans ((one_below w1.drew _).mono (by have := HB1.out.size; exact this))
  go_region_held3 (fun w' => w'.cell? ⟨P, 1, none⟩ = some (.int .i64 (B : Int)) ∧ w'.cell? ⟨P, 2, none⟩ = some (.int .i64 (ls : Int)) ∧ w'.cell? ⟨P, 3, none⟩ = some (.int .i64 (k : Int)) ∧ w'.cell? ⟨bA, oA + i, none⟩ = some (.slice A1 n1 c1))
    ((first | exact HCell.out _ HE7.out | exact HCell.out _ HB6.out | exact HCell.out _ HB6z.out | exact HCell.out _ HB5z.out | exact HCell.out _ HB5.out | exact HCell.out _ HBZ.out | exact HCell.out _ HB1.out.drew))
    (first
      | (go_at_call 235; refine (HRf.out _ (by first | exact HB5z.out | exact HB5.out | exact HBZ.out | exact HB1.out.drew)).mono ?_; rintro e w4 ⟨rfl, rfl⟩)
      | (go_at_call 167; first
          | (refine (HWi.out w1.drew).mono ?_; rintro e w5 ⟨rfl, q5⟩; have HD5 : Hid (Below w1.heap.size w1 w5) := (Below.refl _ w1).drew.trans q5; have HB5 : Hid (Below w.heap.size w w5) := HB1.out.trans (HD5.out.mono (by have := HS1.out; omega)); have HB5z : Hid (Below w.heap.size w (w5.alloc (.cells #[.int .i64 0, .slice none 0 0] 27))) := HB5.out.trans ((one_below w5 _).mono HB5.out.size); clear q5)
          | (refine (HWi.out (w1.drew.alloc (.cells #[.int .i64 0, .slice none 0 0] 27))).mono ?_; rintro e w5 ⟨rfl, q5⟩; have HD5 : Hid (Below w1.heap.size w1 w5) := (Below.refl _ w1).drew.trans ((one_below w1.drew _).trans (q5.mono (by rw [World.size_alloc]; exact Nat.le_succ _))); have HB5 : Hid (Below w.heap.size w w5) := HB1.out.trans (HD5.out.mono (by have := HS1.out; omega)); have HZ5 : Hid (w5.heap[w1.heap.size]? = some (.cells #[.int .i64 0, .slice none 0 0] 27 (0, 0)) ∧ w1.heap.size < w5.heap.size) := ⟨(q5.block _ (by rw [World.size_alloc]; exact Nat.lt_succ_self _)).trans (World.alloc_heap_new w1.drew _), by have := q5.size; rw [World.size_alloc] at this; exact this⟩; clear q5))
      | (go_at_call 13; first
          | (refine (HWr.out (w5.alloc (.cells #[.int .i64 0, .slice none 0 0] 27)) HB5z.out).mono ?_; rintro e w6 ⟨A6, c6, rfl, r6, q6⟩; have q65 := (one_below w5 (.cells #[.int .i64 0, .slice none 0 0] 27)).trans (q6.mono (by rw [World.size_alloc]; omega)); have HD6 : Hid (Below w1.heap.size w1 w6) := HD5.out.trans (q65.mono HD5.out.size); have HB6 : Hid (Below w.heap.size w w6) := HB1.out.trans (HD6.out.mono (by have := HS1.out; omega)); have hz6 : w6.heap[w5.heap.size]? = some (.cells #[.int .i64 0, .slice none 0 0] 27 (0, 0)) := (q6.block _ (by rw [World.size_alloc]; omega)).trans (World.alloc_heap_new w5 _); obtain ⟨y0, y1, y2, y3⟩ := blk_cells hz6; have HE := Lib.hid (e9_set (len := (Lw.length : Int)) (n := (pack Lw).length) (c := c6) HD6.out HD5.out.size hz6 r6); have HE7 : Hid (Below w.heap.size w _) := HB1.out.trans (HE.out.low.mono (by have := HS1.out; omega)); clear q6 r6 q65 hz6)
          | (have HZ := HZ5.out; refine (HWr.out w5 HB5.out).mono ?_; rintro e w6 ⟨A6, c6, rfl, r6, q6⟩; have HD6 : Hid (Below w1.heap.size w1 w6) := HD5.out.trans (q6.mono HD5.out.size); have HB6 : Hid (Below w.heap.size w w6) := HB1.out.trans (HD6.out.mono (by have := HS1.out; omega)); have hz6 : w6.heap[w1.heap.size]? = some (.cells #[.int .i64 0, .slice none 0 0] 27 (0, 0)) := (q6.block _ HZ.2).trans HZ.1; obtain ⟨y0, y1, y2, y3⟩ := blk_cells hz6; have HE := Lib.hid (e9_set (len := (Lw.length : Int)) (n := (pack Lw).length) (c := c6) HD6.out (Nat.le_refl _) hz6 r6); have HE7 : Hid (Below w.heap.size w _) := HB1.out.trans (HE.out.low.mono (by have := HS1.out; omega)); clear q6 r6 hz6 HZ)
          | (refine (HWr.out w5 HB5.out).mono ?_; rintro e w6 ⟨A6, c6, rfl, r6, q6⟩; have HD6 : Hid (Below w1.heap.size w1 w6) := HD5.out.trans (q6.mono HD5.out.size); have HB6 : Hid (Below w.heap.size w w6) := HB1.out.trans (HD6.out.mono (by have := HS1.out; omega)); have HB6z : Hid (Below w.heap.size w (w6.alloc (.cells #[.int .i64 0, .slice none 0 0] 27))) := HB6.out.trans ((one_below w6 _).mono HB6.out.size); have HE := Lib.hid (e9_new (len := (Lw.length : Int)) (n := (pack Lw).length) (c := c6) HD6.out r6); have HE7 : Hid (Below w.heap.size w _) := HB1.out.trans (HE.out.low.mono (by have := HS1.out; omega)); clear q6 r6))
      | fail)
  all_goals (
    have HS9 : Hid (w.heap.size + 1 ≤ w1.heap.size) := by show _ ≤ _; have := HS1.out; omega
    have y7 := HCell.out _ HE7.out
    obtain ⟨y7, y8, y9, y10⟩ := y7
    obtain ⟨z0, z1⟩ := HE.out.cells
    have hr7 := (HE.out.low.block w.heap.size (by have := HS9.out; omega)).trans HR1.out
    obtain ⟨r0, r1, r2, r3⟩ := blk_cells hr7
    have HR7 := Lib.hid hr7
    clear hr7 k1 k2 k3 k4 y8 y9 y10
    by_cases hB0 : B = 0
    · have t3 : ((B : Int) == 0) = true := by simp; omega
      have HFin := Lib.hid (e9_store HE.out HR7.out HE7.out)
      obtain rfl : L = Lw := HL0.out hB0
      go_wp2
      exact bodyPost_ret (v := .agg #[.int .i64 (L.length : Int), .slice A6 (pack L).length c6]) (by simp [results, Tryz.results197, go_sem, r0, r1]) rfl HFin.out
    · have t3 : ((B : Int) == 0) = false := by simp; omega
      have t4 : IntKind.u64.wrap (r : Int) = (r : Int) := by rw [IntKind.wrap_u64]; have := HHi.out; omega
      have HGm := Lib.hid (gamma_ok r (by have := HHi.out; omega) (gam r) rfl)
      go_wp2_with fail
      refine (HGm.out _).mono ?_
      rintro e w8 ⟨A8, c8, rfl, r8, q8⟩
      have HE8 := Lib.hid (HE.out.on q8)
      have HR8 := Lib.hid ((q8.block w.heap.size (by have := HE.out.lt; have := HE.out.ge; have := HS9.out; omega)).trans HR7.out)
      have HB8 : Hid (Below w.heap.size w w8) := HE7.out.trans (q8.mono HE7.out.size)
      have HF8 := Lib.hid (e9_new (w1 := w8) (len := ((gam r).length : Int)) (n := (pack (gam r)).length) (c := c8) (Below.refl _ _) r8)
      have HG8 := Lib.hid (HE8.out.on (one_below w8 (.cells #[.int .i64 ((gam r).length : Int), .slice A8 (pack (gam r)).length c8] 27)))
      obtain ⟨x0, x1⟩ := HF8.out.cells
      obtain ⟨v0, v1⟩ := HG8.out.cells
      have HB9 : Hid (Below w.heap.size w (w8.alloc (.cells #[.int .i64 ((gam r).length : Int), .slice A8 (pack (gam r)).length c8] 27))) := HB8.out.trans ((one_below w8 _).mono HB8.out.size)
      have HJn := Lib.hid (join_l (gam r) Lw L A8 A6 c8 c6 (by have := HLL.out; have := gam_le r 3 (by have := HHi.out; omega); omega) (HL1.out hB0) _ HF8.out.rd HG8.out.rd)
      clear q8 r8 z0 z1 y7 r0 r1 r2 r3
      go_wp2_with fail
      refine HJn.out.mono ?_
      rintro e w9 ⟨A9, c9, rfl, r9, q9⟩
      have HB10 : Hid (Below w.heap.size w w9) := HB9.out.trans (q9.mono HB9.out.size)
      have HE10 := Lib.hid (e9_new (w1 := w9) (len := (L.length : Int)) (n := (pack L).length) (c := c9) (Below.refl _ _) r9)
      have HB11 : Hid (Below w.heap.size w (w9.alloc (.cells #[.int .i64 (L.length : Int), .slice A9 (pack L).length c9] 27))) := HB10.out.trans ((one_below w9 _).mono HB10.out.size)
      have hr9 : (w9.alloc (.cells #[.int .i64 (L.length : Int), .slice A9 (pack L).length c9] 27)).heap[w.heap.size]? = some (.cells #[.int .i64 0, .slice none 0 0] 27 (0, 0)) := by
        have l1 := HE7.out.size
        have l2 := HB8.out.size
        have l3 : w.heap.size < w8.heap.size := by have := HE8.out.lt; have := HE8.out.ge; have := HS9.out; omega
        have l4 := q9.size
        rw [World.size_alloc] at l4
        rw [(one_below w9 _).block _ (by omega), q9.block _ (by rw [World.size_alloc]; omega), (one_below w8 _).block _ l3]
        exact HR8.out
      obtain ⟨r0, r1, r2, r3⟩ := blk_cells hr9
      have HFin := Lib.hid (e9_store HE10.out hr9 HB11.out)
      clear q9 r9 hr9 x0 x1 v0 v1
      obtain ⟨x0, x1⟩ := HE10.out.cells
      go_wp2
      exact bodyPost_ret (v := .agg #[.int .i64 (L.length : Int), .slice A9 (pack L).length c9]) (by simp [results, Tryz.results197, go_sem, r0, r1]) rfl HFin.out)
end
section
set_option maxRecDepth 100000
set_option linter.unusedVariables false
open Go.RowKit Go.Shelf
def GvN (w : World) (m : Int) (len : Int) (n : Nat) (bs : List Nat) (e : Ending) (w' : World) : Prop :=
  ∃ A c, e = .returned (.tuple #[.int .i64 m, .agg #[.int .i64 len, .slice A n c]]) ∧ Rd w' w'.heap.size A bs ∧ Below w.heap.size w w'
theorem e9_storeN {w w1 W : World} {b : Nat} {len m : Int} {A : Option Addr} {n c : Nat} {bs : List Nat} (h : E9 w1 W b len A n c bs) (hrb : W.heap[w.heap.size]? = some (.cells #[.int .i64 0, .slice none 0 0] 27 (0, 0))) (hlow : Below w.heap.size w W) :
    GvN w m len n bs (.returned (.tuple #[.int .i64 m, .agg #[.int .i64 len, .slice A n c]])) ((W.setCell ⟨w.heap.size, 0, none⟩ (.int .i64 len)).setCell ⟨w.heap.size, 1, none⟩ (.slice A n c)) := by
  obtain ⟨A', c', q1, q2, q3⟩ := e9_store h hrb hlow
  injection q1 with q1
  injection q1 with q1
  have q1 := congrArg Array.toList q1
  simp at q1
  obtain ⟨rfl, rfl⟩ := q1
  exact ⟨A, c, rfl, q2, q3⟩
theorem E9.put {w1 W : World} {b : Nat} {len len2 : Int} {A A2 : Option Addr} {n c n2 c2 : Nat} {bs bs2 : List Nat} (h : E9 w1 W b len A n c bs) (h2 : Rd W W.heap.size A2 bs2) :
    E9 w1 ((W.setCell ⟨b, 0, none⟩ (.int .i64 len2)).setCell ⟨b, 1, none⟩ (.slice A2 n2 c2)) b len2 A2 n2 c2 bs2 := by
  have r1 := h2.setK (i := 0) (.int .i64 len2) h.row
  have hr2 : (W.setCell ⟨b, 0, none⟩ (.int .i64 len2)).heap[b]? = some (.cells #[.int .i64 len2, .slice A n c] 27 (0, 0)) := by
    rw [heap_set_same _ _ _ _ 27 _ h.row]; simp
  have r2 := r1.setK (i := 1) (.slice A2 n2 c2) hr2
  have e : ((W.setCell ⟨b, 0, none⟩ (.int .i64 len2)).setCell ⟨b, 1, none⟩ (.slice A2 n2 c2)).heap.size = W.heap.size := by simp [World.setCell]
  refine ⟨(h.low.setCell (p := ⟨b, 0, none⟩) h.ge _).setCell (p := ⟨b, 1, none⟩) h.ge _, h.ge, ?_, ?_⟩
  · rw [heap_set_same _ _ _ _ 27 _ hr2]; simp
  · rw [e]; exact r2
theorem E9.frz {w1 W : World} {b : Nat} {len : Int} {A : Option Addr} {n c : Nat} {bs : List Nat} (h : E9 w1 W b len A n c bs) : W.frozen? ⟨b, 0, none⟩ = false ∧ W.frozen? ⟨b, 1, none⟩ = false := ⟨frz_at h.row 0, frz_at h.row 1⟩
theorem E9.drew {w1 W : World} {b : Nat} {len : Int} {A : Option Addr} {n c : Nat} {bs : List Nat} (h : E9 w1 W b len A n c bs) : E9 w1 W.drew b len A n c bs := ⟨h.low.drew, h.ge, h.row, h.rd⟩
theorem GvN.drew {w w' : World} {m len : Int} {n : Nat} {bs : List Nat} {e : Ending} (h : GvN w m len n bs e w') : GvN w m len n bs e w'.drew := by
  obtain ⟨A, c, q1, q2, q3⟩ := h
  exact ⟨A, c, q1, q2, q3.drew⟩
set_option maxHeartbeats 4000000 in
theorem fewest_ok {g : List (List Nat)} {R : List Rw} (h : GrR g R) (N : Nat) (hN : R.length = N) (B ls k : Nat) (hB : B ≤ 7) (hls : ls = 0 ∨ 2 ≤ ls ∧ ls ≤ 300) (hk : 1 ≤ k) (hk2 : k ≤ 16) (i : Nat) (hi : i < N) (P : Nat) (A : Option Addr) (c : Nat) (L : List Bool) (hL : ndB B ls k g i (bst B ls k g i) = L) (m : Int) (hm : ((bst B ls k g i : Nat) : Int) = m) (w : World) (hG : RdG w w.heap.size A R) (hP : P < w.heap.size)
    (h1 : w.cell? ⟨P, 1, none⟩ = some (.int .i64 (B : Int))) (h2 : w.cell? ⟨P, 2, none⟩ = some (.int .i64 (ls : Int))) (h3 : w.cell? ⟨P, 3, none⟩ = some (.int .i64 (k : Int))) :
    Calls Tryz.prog 156 #[.pointer (some ⟨P, 0, none⟩), .int .i64 (i : Int), .slice A N c] w (GvN w m (L.length : Int) (pack L).length (pack L)) := by
  have hn : N ≤ 100 := by have := h.ok.nodes; have := h.len; omega
  have HCell : Hid (∀ V, Below w.heap.size w V → V.cell? ⟨P, 1, none⟩ = some (.int .i64 (B : Int)) ∧ V.cell? ⟨P, 2, none⟩ = some (.int .i64 (ls : Int)) ∧ V.cell? ⟨P, 3, none⟩ = some (.int .i64 (k : Int))) := fun V hV =>
    ⟨(hV.cell (p := ⟨P, 1, none⟩) hP).trans h1, (hV.cell (p := ⟨P, 2, none⟩) hP).trans h2, (hV.cell (p := ⟨P, 3, none⟩) hP).trans h3⟩
  have HEn : Hid (∀ (r : Nat) (L1 : List Bool) (V : World), r ≤ min B i → ndB B ls k g i r = L1 → Below w.heap.size w V → Calls Tryz.prog 197 #[.pointer (some ⟨P, 0, none⟩), .int .i64 (i : Int), .int .i64 (r : Int), .slice A N c] V (GvB V (L1.length : Int) (pack L1).length (pack L1))) := fun r L1 V hr hL1 hV => by
    obtain ⟨y1, y2, y3⟩ := HCell.out V hV
    exact encode_ok h N hN B ls k hB hls hk hk2 i r hi hr P A c L1 hL1 V (hG.on hV) (by have := hV.size; omega) y1 y2 y3
  have HFa : Hid (∀ V : World, Calls Tryz.prog 198 #[.agg #[.int .i64 (B : Int), .int .i64 (ls : Int), .int .i64 (k : Int)], .int .i64 (i : Int)] V fun e w' => e = .returned (.int .i64 ((min B i : Nat) : Int)) ∧ Below V.heap.size V w') := fun V => by
    have hh := farthest_any B ls k i V
    have e : min (B : Int) (i : Int) = ((min B i : Nat) : Int) := by omega
    rw [e] at hh
    exact hh
  obtain ⟨w1, ew1⟩ : ∃ w1, w.alloc (.cells #[.int .i64 0, .slice none 0 0] 27) = w1 := ⟨_, rfl⟩
  have s1 : w1.heap.size = w.heap.size + 1 := ew1 ▸ World.size_alloc _ _
  have hb1 : Below w.heap.size w w1 := ew1 ▸ one_below w _
  have hr1 : w1.heap[w.heap.size]? = some (.cells #[.int .i64 0, .slice none 0 0] 27 (0, 0)) := ew1 ▸ World.alloc_heap_new w _
  have HB1 := Lib.hid hb1
  have HR1 := Lib.hid hr1
  have HS1 := Lib.hid s1
  obtain ⟨M, hM⟩ : ∃ M, min B i = M := ⟨_, rfl⟩
  have HM : Hid (M ≤ 7 ∧ ∀ r, r ≤ M → r ≤ min B i) := ⟨by omega, fun r hr => by omega⟩
  have HLm : Hid (ndB B ls k g i (fw B ls k g i M) = L ∧ ((fw B ls k g i M : Nat) : Int) = m) := by rw [← hM]; exact ⟨hL, hm⟩
  rw [hM] at HFa
  obtain ⟨L0, hL0⟩ : ∃ L0, ndB B ls k g i 0 = L0 := ⟨_, rfl⟩
  have HL0 := Lib.hid hL0
  have HE0 := Lib.hid (HEn.out 0 L0 w1 (Nat.zero_le _) hL0 hb1)
  have hLow : Hid (∀ V, Below w1.heap.size w1 V → Below w.heap.size w V) := fun V hV => HB1.out.trans (hV.mono (by have := HS1.out; omega))
  clear hL hm hM hL0 hG h1 h2 h3 hP hn hN h hls hk hk2 hB hi hb1 hr1 s1
  go_enter Tryz.func156, Tryz.ntmps156
  go_wp2_with fail
  refine HE0.out.mono ?_
  rintro e w2 ⟨A2, c2, rfl, r2, q2⟩
  have HE2 := Lib.hid (e9_new (w1 := w1) (len := (L0.length : Int)) (n := (pack L0).length) (c := c2) q2 r2)
  obtain ⟨b9, hb9⟩ : ∃ b9, w2.heap.size = b9 := ⟨_, rfl⟩
  rw [hb9] at HE2
  clear q2 r2 ew1 HE0
  go_wp2
  go_loopw [8, 10] (fun al p wr => ∃ (s : Nat) (A9 : Option Addr) (c9 : Nat) (L9 : List Bool), s ≤ M ∧ al = .int .i64 ((fw B ls k g i s : Nat) : Int) ∧ p = .int .i64 ((s : Int) + 1) ∧ ndB B ls k g i (fw B ls k g i s) = L9 ∧ E9 w1 wr b9 (L9.length : Int) A9 (pack L9).length c9 (pack L9)) (fun _ p _ => M + 1 - (intOf p).toNat)
  case atStart => exact ⟨0, _, _, L0, Nat.zero_le _, rfl, rfl, HL0.out, HE2.out⟩
  case round =>
   as_aux_lemma =>
    clear HE2
    obtain ⟨s, A9, c9, L9, hs, rfl, rfl, hL9, hE⟩ := hrel
    have hw := hLow.out _ hE.low
    obtain ⟨y1, y2, y3⟩ := HCell.out _ hw
    have HEr := Lib.hid hE
    have HBr := Lib.hid hw
    have HL9 := Lib.hid hL9
    by_cases hlt : s < M
    · have t1 : decide (((s : Int) + 1) ≤ (M : Int)) = true := by simp; omega
      obtain ⟨L1, hL1⟩ : ∃ L1, ndB B ls k g i (s + 1) = L1 := ⟨_, rfl⟩
      have HL1 := Lib.hid hL1
      have HC : Hid (∀ V, Below w.heap.size w V → Calls Tryz.prog 197 #[.pointer (some ⟨P, 0, none⟩), .int .i64 (i : Int), .int .i64 ((s : Int) + 1), .slice A N c] V (GvB V (L1.length : Int) (pack L1).length (pack L1))) := fun V hV => by
        have hh := HEn.out (s + 1) L1 V (HM.out.2 _ hlt) hL1 hV
        have ecast : ((s + 1 : Nat) : Int) = (s : Int) + 1 := by omega
        rw [ecast] at hh
        exact hh
      clear hE hw hL1 hL9
      obtain ⟨v, hv⟩ : ∃ v : Nat, fw B ls k g i s = v := ⟨_, rfl⟩
      have HV := Lib.hid hv
      rw [hv]
      clear hv
      go_wp2_with fail
      refine (HFa.out wr).mono ?_
      rintro e w3 ⟨rfl, q3⟩
      have HE3 := Lib.hid (HEr.out.on q3)
      have HB3 : Hid (Below w.heap.size w w3) := hLow.out _ HE3.out.low
      clear q3 y1 y2 y3
      go_wp2_with fail
      refine (HC.out w3 HB3.out).mono ?_
      rintro e w4 ⟨A4, c4, rfl, r4, q4⟩
      have HE4 := Lib.hid (HE3.out.on q4)
      have HF5 := Lib.hid (e9_new (w1 := w4) (len := (L1.length : Int)) (n := (pack L1).length) (c := c4) (Below.refl _ _) r4)
      have HE5 := Lib.hid (HE4.out.on (one_below w4 (.cells #[.int .i64 (L1.length : Int), .slice A4 (pack L1).length c4] 27)))
      obtain ⟨x0, x1⟩ := HF5.out.cells
      obtain ⟨v0, v1⟩ := HE5.out.cells
      obtain ⟨f0, f1⟩ := HE5.out.frz
      clear q4 r4
      have t5 : wrap64 ((s : Int) + 1 + 1) = (s : Int) + 1 + 1 := by have := HM.out.1; unfold wrap64; omega
      have HW : Hid (fw B ls k g i (s + 1) = if L1.length < L9.length then s + 1 else v) := by
        show _ = _
        unfold fw
        rw [HL1.out, HL9.out, HV.out]
      by_cases hless : L1.length < L9.length
      · have t2 : decide (L1.length < L9.length) = true := by simp; omega
        have HW2 : Hid (fw B ls k g i (s + 1) = s + 1) := by show _ = _; rw [HW.out, if_pos hless]
        clear HW hless
        go_wp2
        go_region
        all_goals (
          go_wp2
          refine ⟨⟨s + 1, A4, c4, L1, hlt, by rw [HW2.out]; exact congrArg _ (by omega), by rw [t5]; exact congrArg _ (by omega), by rw [HW2.out]; exact HL1.out, ?_⟩, by rw [t5]; simp [intOf]; omega⟩
          first | exact (HE5.out.put HF5.out.rd).drew | exact HE5.out.put HF5.out.rd)
      · have t2 : decide (L1.length < L9.length) = false := by simp; omega
        have HW2 : Hid (fw B ls k g i (s + 1) = v) := by show _ = _; rw [HW.out, if_neg hless]
        clear HW hless
        go_wp2
        exact ⟨⟨s + 1, _, _, L9, hlt, by rw [HW2.out], by rw [t5]; exact congrArg _ (by omega), by rw [HW2.out, ← HV.out]; exact HL9.out, HE5.out⟩, by rw [t5]; simp [intOf]; omega⟩
    · obtain rfl : s = M := by omega
      have t1 : decide (((s : Int) + 1) ≤ (s : Int)) = false := by simp; omega
      obtain rfl : L9 = L := by rw [← hL9, HLm.out.1]
      rw [HLm.out.2]
      clear hE hw hL9
      go_wp2_with fail
      refine (HFa.out wr).mono ?_
      rintro e w3 ⟨rfl, q3⟩
      have HE3 := Lib.hid (HEr.out.on q3)
      have HB3 : Hid (Below w.heap.size w w3) := hLow.out _ HE3.out.low
      obtain ⟨v0, v1⟩ := HE3.out.cells
      have hr3 := (HE3.out.low.block w.heap.size (by have := HS1.out; omega)).trans HR1.out
      obtain ⟨r0, r1, r2, r3⟩ := blk_cells hr3
      have HFin := Lib.hid (e9_storeN (m := m) HE3.out hr3 HB3.out)
      clear q3 y1 y2 y3 hr3
      go_wp2
      go_region
      all_goals (
        go_wp2
        exact bodyPost_ret (v := .tuple #[.int .i64 m, .agg #[.int .i64 (L9.length : Int), .slice A9 (pack L9).length c9]]) (by simp [results, Tryz.results156, go_sem, r0, r1]) rfl (by first | exact HFin.out.drew | exact HFin.out))
end
end Go.Proofs.YtbddcokjkdoaaaaGreat
