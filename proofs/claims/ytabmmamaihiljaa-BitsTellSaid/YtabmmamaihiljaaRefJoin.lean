/- The document's own Join answers what Join answers, for whatever it is handed. -/
import Derived.Test.YtabmmamaihiljaaRefCut
import Derived.Deep.RegionHeld3
import Derived.Deep.DrawnRows
namespace Go.Proofs.Ytabmmamaihiljaa
open Go.RowKit

theorem rcheck_later (len : Int) (A : Option Addr) (c : Nat) (bs : List Nat) (w : World) (hb : ∀ b ∈ bs, b < 256) (h : Rd w w.heap.size A bs) (e0 : Int) (he : chk len bs = e0) (W' : World) (hW : Below w.heap.size w W') :
    Calls Try.prog 24 #[.agg #[.int .i64 len, .slice A bs.length c]] W' fun e w' => e = .returned (.int .i64 e0) ∧ Below W'.heap.size W' w' := by
  rw [← he]
  exact rcheck_any len A c bs hb W' (h.below hW hW.size)

set_option maxRecDepth 100000 in
set_option maxHeartbeats 1000000 in
theorem rjoin_a (lx ly : Int) (A B : Option Addr) (c d : Nat) (xs ys : List Nat) (w : World) (hx : ∀ b ∈ xs, b < 256) (hA : Rd w w.heap.size A xs) (e0 : Int) (he : chk lx xs = e0) (h : e0 ≠ 0) :
    Calls Try.prog 20 #[.agg #[.int .i64 lx, .slice A xs.length c], .agg #[.int .i64 ly, .slice B ys.length d]] w (Gave w [] e0) := by
  have HX := Lib.hid (rcheck_later lx A c xs w hx hA e0 he (begun3 w (.int .i64 lx) (.int .i64 ly) (.slice A xs.length c) (.slice B ys.length d)) (begun3_below _ _ _ _ _))
  have hcb : (e0 != 0) = true := by simpa using h
  have hcc : (e0 == 0) = false := by simpa using h
  clear h hx hA he
  have HB := Lib.hid (begun3_below w (.int .i64 lx) (.int .i64 ly) (.slice A xs.length c) (.slice B ys.length d))
  rw [begun3_size] at HX
  generalize xs.length = n at *
  generalize ys.length = m at *
  go_enter Try.func20, Try.ntmps20
  go_wp2_with fail
  refine HX.out.mono ?_
  rintro e w1 ⟨rfl, hq⟩
  unfold begun3 at hq
  obtain ⟨hc1, hf1⟩ := old_cells hq
  go_wp2
  exact bodyPost_ret (v := .tuple #[.agg #[.int .i64 0, .slice none 0 0], .int .i64 e0]) (by simp [results, Try.results20, go_sem, hc1]) rfl (gave_zero (HB.out.trans (hq.mono (by omega))) _ (by omega) e0)

set_option maxRecDepth 100000 in
set_option maxHeartbeats 1000000 in
theorem rjoin_b (lx ly : Int) (A B : Option Addr) (c d : Nat) (xs ys : List Nat) (w : World) (hx : ∀ b ∈ xs, b < 256) (hA : Rd w w.heap.size A xs) (h : chk lx xs = 0) (hy : ∀ b ∈ ys, b < 256) (hB : Rd w w.heap.size B ys) (e0 : Int) (he : chk ly ys = e0) (h2 : e0 ≠ 0 ∨ (e0 = 0 ∧ 8192 < lx + ly ∧ 0 ≤ lx ∧ 0 ≤ ly ∧ lx ≤ 8192 ∧ ly ≤ 8192)) (e1 : Int) (he1 : e1 = if e0 = 0 then 8 else e0) :
    Calls Try.prog 20 #[.agg #[.int .i64 lx, .slice A xs.length c], .agg #[.int .i64 ly, .slice B ys.length d]] w (Gave w [] e1) := by
  have HX := Lib.hid (rcheck_later lx A c xs w hx hA 0 h (begun3 w (.int .i64 lx) (.int .i64 ly) (.slice A xs.length c) (.slice B ys.length d)) (begun3_below _ _ _ _ _))
  rw [begun3_size] at HX
  have HY := Lib.hid (rcheck_later ly B d ys w hy hB e0 he)
  clear h hx hA hy hB he
  have HB := Lib.hid (begun3_below w (.int .i64 lx) (.int .i64 ly) (.slice A xs.length c) (.slice B ys.length d))
  generalize xs.length = n at *
  generalize ys.length = m at *
  rcases h2 with h2 | ⟨rfl, h2, b1, b2, b3, b4⟩
  · have hcb : (e0 != 0) = true := by simpa using h2
    have hcc : (e0 == 0) = false := by simpa using h2
    rw [if_neg h2] at he1
    subst he1
    clear h2
    go_enter Try.func20, Try.ntmps20
    go_wp2_with fail
    refine HX.out.mono ?_
    rintro e w1 ⟨rfl, hq⟩
    unfold begun3 at hq
    obtain ⟨hc1, hf1⟩ := old_cells hq
    have HS : Hid (w.heap.size + 3 ≤ w1.heap.size) := by have := hq.size; rw [show (((w.alloc _).alloc _).alloc _).heap.size = w.heap.size + 3 from begun3_size w _ _ _ _] at this; exact this
    go_wp2_with fail
    refine (HY.out w1 (HB.out.trans (hq.mono (by omega)))).mono ?_
    rintro e w2 ⟨rfl, hq2⟩
    have hq3 := hq.trans (hq2.mono HS.out)
    clear hc1 hf1
    obtain ⟨hc1, hf1⟩ := old_cells hq3
    go_wp2
    exact bodyPost_ret (v := .tuple #[.agg #[.int .i64 0, .slice none 0 0], .int .i64 e1]) (by simp [results, Try.results20, go_sem, hc1]) rfl (gave_zero (HB.out.trans (hq3.mono (by omega))) _ (by omega) e1)
  · rw [if_pos rfl] at he1
    subst he1
    have t3 : decide ((8192 : Int) < lx + ly) = true := by simp; omega
    go_enter Try.func20, Try.ntmps20
    go_wp2_with fail
    refine HX.out.mono ?_
    rintro e w1 ⟨rfl, hq⟩
    unfold begun3 at hq
    obtain ⟨hc1, hf1⟩ := old_cells hq
    have HS : Hid (w.heap.size + 3 ≤ w1.heap.size) := by have := hq.size; rw [show (((w.alloc _).alloc _).alloc _).heap.size = w.heap.size + 3 from begun3_size w _ _ _ _] at this; exact this
    go_wp2_with fail
    refine (HY.out w1 (HB.out.trans (hq.mono (by omega)))).mono ?_
    rintro e w2 ⟨rfl, hq2⟩
    have hq3 := hq.trans (hq2.mono HS.out)
    clear hc1 hf1
    obtain ⟨hc1, hf1⟩ := old_cells hq3
    go_wp2
    exact bodyPost_ret (v := .tuple #[.agg #[.int .i64 0, .slice none 0 0], .int .i64 8]) (by simp [results, Try.results20, go_sem, hc1]) rfl (gave_zero (HB.out.trans (hq3.mono (by omega))) _ (by omega) 8)

/-- app3, at a step of a region that draws its order. -/
theorem app3s {w : World} {ops : Array Oper} {o : Oper} {a : Act} {K : Act → World → Prop} {Q : Exit → Act → World → Prop} {E : Prop} (hgd : o.guard = none) (s x : Operand)
    (ho : o.op = .call { callee := .builtin .append, args := #[s, x], argTypes := #[51, 51] }) (base : Nat)
    (v : Value) (n : Nat) (xs : List Value) (hs : a.eval s = v) (hown : w.ownsRow base 3 1 v n xs)
    (A : Option Addr) (m c : Nat) (news : List Value) (hx : a.eval x = .slice A m c) (hr : RdV w w.heap.size A news) (hlen : news.length = m) (h1 : ∀ u ∈ news, u.oneCell' = true) (hc : A = none → c = 0)
    (hb : (n + m) * 8 ≤ 140737488355328) (hbase : base ≤ w.heap.size)
    (h : ∀ v' w', w'.ownsRow base 3 1 v' (n + m) (xs ++ news) → w.grownBy w' v.ownBlock → K (a.put o.dst v') w') : if Region.wanted o (yielded ops a.tmps) = true then Oper.wp Try.prog o a w K Q else E := by
  have hw : Region.wanted o (yielded ops a.tmps) = true := by simp [Region.wanted, hgd]
  rw [if_pos hw]
  obtain ⟨i0, hi, hz0, hz1, hz2⟩ := info_parts info3
  have key : ∃ v' w', (Builtin.append_ #[51, 51] o.type #[v, .slice A m c]).run Try.prog w = .ok v' w' ∧ w'.ownsRow base 3 1 v' (n + m) (xs ++ news) ∧ w.grownBy w' v.ownBlock := by
    rcases A with _ | ad
    · obtain rfl : news = [] := by
        rcases hr with h | ⟨b, off, h, _⟩
        · exact h
        · cases h
      obtain rfl : m = 0 := by simpa using hlen.symm
      obtain rfl := hc rfl
      exact ⟨v, w, run_append_owned_none (P := Try.prog) (w := w) base 51 o.type 3 i0 1 Try.underlying51 hi v n xs hown, by simpa using hown, World.grownBy.refl w _⟩
    · have hcells : ∀ j u, news[j]? = some u → w.cell? (ad.add j) = some u := by
        rcases hr with rfl | ⟨b, off, e, _, hcell⟩
        · intro j u hu; simp at hu
        · cases e
          intro j u hu
          have ha : (⟨b, off, none⟩ : Addr).add j = ⟨b, off + j, none⟩ := by unfold Addr.add; split <;> simp_all
          rw [ha]
          exact hcell j u hu
      obtain ⟨v', w', hrun, h2, h3, _⟩ := run_append_own (P := Try.prog) w base 51 o.type 3 i0 (.int .i64 0) 1 8 Try.underlying51 hi hz0 hz1 hz2 rfl (by decide) v n xs hown ad m c news (by omega) hcells h1 (by unfold maxLen; omega) hb hbase
      exact ⟨v', w', hrun, h2, h3⟩
  obtain ⟨v', w', hrun, h2, h3⟩ := key
  unfold Oper.wp execOp
  simp only [ho, resolve, invoke, builtin, Sem.run_bind, Sem.run_pure, Result.andThen_ok, List.map_toArray, List.map_cons, List.map_nil, hs, hx, hrun]
  exact h v' w' h2 h3

theorem own_drew {w : World} {base : Nat} {e : TypeId} {size n : Nat} {v : Value} {xs : List Value} (h : w.ownsRow base e size v n xs) : w.drew.ownsRow base e size v n xs := h
theorem rdv_drew {w : World} {A : Option Addr} {xs : List Value} (h : RdV w w.heap.size A xs) : RdV w.drew w.drew.heap.size A xs := h
theorem listed_drew {w : World} {l : List Bool} {e : Ending} {w' : World} (h : Listed w.drew l e w') : ∃ A c, e = .returned (.slice A l.length c) ∧ w'.ownsRow w.heap.size 3 1 (.slice A l.length c) l.length (ic l) ∧ Below w.heap.size w w' := by
  obtain ⟨A, c, h1, h2, h3⟩ := h
  exact ⟨A, c, h1, h2, ((Below.refl _ w).drew).trans h3⟩
theorem join_grown {B : Nat} {w2 w4 w5 : World} {base : Nat} {A : Option Addr} {n c : Nat} {xs : List Value} (hk4 : Below B w2 w4) (hB : B ≤ base) (hB4 : B ≤ w4.heap.size) (ho : w4.ownsRow base 3 1 (.slice A n c) n xs) (hg : w4.grownBy w5 (Value.slice A n c).ownBlock) : Below B w2 w5 :=
  hk4.grown hg hB4 (fun j hj => Nat.le_trans hB (ho.lt j hj).1)

attribute [local go_sem ↓] Go.wp_at_zero Go.wp_at_succ
set_option maxRecDepth 100000 in
set_option maxHeartbeats 2000000 in
theorem rjoin_ok (a b L : List Bool) (hf : a.length + b.length ≤ 8192) (A B : Option Addr) (c d : Nat) (w : World) (hA : Rd w w.heap.size A (pack a)) (hB : Rd w w.heap.size B (pack b)) (hL : L = a ++ b) :
    Calls Try.prog 20 #[.agg #[.int .i64 (a.length : Int), .slice A (pack a).length c], .agg #[.int .i64 (b.length : Int), .slice B (pack b).length d]] w (Gave w L 0) := by
  have HX := Lib.hid (rcheck_later (a.length : Int) A c (pack a) w (pack_lt a) hA 0 (chk_pack a (by omega)) (begun3 w (.int .i64 (a.length : Int)) (.int .i64 (b.length : Int)) (.slice A (pack a).length c) (.slice B (pack b).length d)) (begun3_below _ _ _ _ _))
  rw [begun3_size] at HX
  have HY := Lib.hid (rcheck_later (b.length : Int) B d (pack b) w (pack_lt b) hB 0 (chk_pack b (by omega)))
  have HBz := Lib.hid (begun3_below w (.int .i64 (a.length : Int)) (.int .i64 (b.length : Int)) (.slice A (pack a).length c) (.slice B (pack b).length d))
  have HBA : Hid (∀ w1, Below w.heap.size w w1 → Calls Try.prog 33 #[.agg #[.int .i64 (a.length : Int), .slice A (pack a).length c]] w1.drew fun e w' => ∃ A c, e = .returned (.slice A a.length c) ∧ w'.ownsRow w1.heap.size 3 1 (.slice A a.length c) a.length (ic a) ∧ Below w1.heap.size w1 w') := fun w1 hq =>
    (bitList_any a.length (by omega) A (pack a).length c (pack a) rfl (by rw [pack_length]; omega) (pack_lt a) w1.drew (hA.below hq.drew hq.size) a (unpack_pack a).symm).mono fun _ _ h => listed_drew h
  have HBB : Hid (∀ w1, Below w.heap.size w w1 → Calls Try.prog 33 #[.agg #[.int .i64 (b.length : Int), .slice B (pack b).length d]] w1 (Listed w1 b)) := fun w1 hq =>
    bitList_any b.length (by omega) B (pack b).length d (pack b) rfl (by rw [pack_length]; omega) (pack_lt b) w1 (hB.below hq hq.size) b (unpack_pack b).symm
  have HL := Lib.hid hL; clear hL
  clear hB hA
  have t3 : decide ((8192 : Int) < (a.length : Int) + (b.length : Int)) = false := by simp; omega
  go_enter Try.func20, Try.ntmps20
  go_wp2_with fail
  refine HX.out.mono ?_
  rintro e w1 ⟨rfl, hq⟩
  unfold begun3 at hq
  obtain ⟨hc1, hf1⟩ := old_cells hq
  have HS : Hid (w.heap.size + 3 ≤ w1.heap.size) := by have := hq.size; rw [show (((w.alloc _).alloc _).alloc _).heap.size = w.heap.size + 3 from begun3_size w _ _ _ _] at this; exact this
  go_wp2_with fail
  refine (HY.out w1 (HBz.out.trans (hq.mono (by omega)))).mono ?_
  rintro e w2 ⟨rfl, hq2⟩
  have hq3 := hq.trans (hq2.mono HS.out)
  have HS2 : Hid (w.heap.size + 3 ≤ w2.heap.size) := by have h1 := HS.out; have h2 := hq2.size; show _ ≤ _; omega
  clear hc1 hf1 hq hq2
  obtain ⟨hc1, hf1⟩ := old_cells hq3
  have HK : Hid (∀ w', Below (w.heap.size + 2) w2 w' → w'.cell? ⟨w.heap.size, 0, none⟩ = some (.int .i64 (a.length : Int)) ∧ w'.cell? ⟨w.heap.size, 1, none⟩ = some (.slice A (pack a).length c) ∧ w'.cell? ⟨w.heap.size + 1, 0, none⟩ = some (.int .i64 (b.length : Int)) ∧ w'.cell? ⟨w.heap.size + 1, 1, none⟩ = some (.slice B (pack b).length d)) := by
    intro w' h'
    obtain ⟨k1, _⟩ := old_cells ((hq3.mono (by omega)).trans h')
    refine ⟨?_, ?_, ?_, ?_⟩ <;> rw [k1 _ _ (by omega)] <;> simp [go_sem]
  have HLow : Hid (∀ w', Below (w.heap.size + 3) w2 w' → Below w.heap.size w w') := fun w' h' => HBz.out.trans ((hq3.trans h').mono (by omega))
  have HRB2 : Hid (w2.heap[w.heap.size + 1 + 1]? = some (.cells #[.int .i64 0, .slice none 0 0] 24 (0, 0))) := (hq3.block _ (by omega)).trans (begun3_res w _ _ _ _)
  have HLe : Hid (L.length = a.length + b.length) := by show _ = _; rw [HL.out, List.length_append]
  have HFin : Hid (∀ w6 A4 c4, Rd w6 w6.heap.size A4 (pack L) → Below (w.heap.size + 3) w2 w6 → (w6.cell? ⟨w.heap.size + 1 + 1, 0, none⟩ = some (.int .i64 0) ∧ w6.cell? ⟨w.heap.size + 1 + 1, 1, none⟩ = some (.slice none 0 0) ∧ w6.frozen? ⟨w.heap.size + 1 + 1, 0, none⟩ = false ∧ w6.frozen? ⟨w.heap.size + 1 + 1, 1, none⟩ = false) ∧ Hid (Gave w L 0 (.returned (.tuple #[.agg #[.int .i64 (L.length : Int), .slice A4 (pack L).length c4], .int .i64 0])) ((w6.setCell ⟨w.heap.size + 1 + 1, 0, none⟩ (.int .i64 (L.length : Int))).setCell ⟨w.heap.size + 1 + 1, 1, none⟩ (.slice A4 (pack L).length c4)))) := by
    intro w6 A4 c4 R4 B4
    exact gv_store R4 (by omega) ((B4.block _ (by omega)).trans HRB2.out) (HLow.out _ B4)
  have HT : Hid (∀ x y, Below (w.heap.size + 3) w2 x → Below x.heap.size x y → Below (w.heap.size + 3) w2 y) := fun x y h1 h2 => h1.trans (h2.mono (Nat.le_trans HS2.out h1.size))
  have HRL : Hid (∀ (w5 : World) A3 c3, w5.ownsRow w2.heap.size 3 1 (.slice A3 (a.length + b.length) c3) (a.length + b.length) (ic a ++ ic b) → RdV w5 w5.heap.size A3 (ic L)) := by
    intro w5 A3 c3 h
    have h := own_rdv h
    rw [← ic_append, ← HL.out] at h
    exact h
  go_wp2_with fail
  clear hq3 hc1 hf1
  go_region_held3 (fun w' => w'.cell? ⟨w.heap.size, 0, none⟩ = some (.int .i64 (a.length : Int)) ∧ w'.cell? ⟨w.heap.size, 1, none⟩ = some (.slice A (pack a).length c) ∧ w'.cell? ⟨w.heap.size + 1, 0, none⟩ = some (.int .i64 (b.length : Int)) ∧ w'.cell? ⟨w.heap.size + 1, 1, none⟩ = some (.slice B (pack b).length d))
    ((refine HK.out _ ?_; first | exact ((hk6.out.mono (Nat.le_succ _)).setCell (p := ⟨w.heap.size + 1 + 1, 0, none⟩) (Nat.le_refl _) _).setCell (p := ⟨w.heap.size + 1 + 1, 1, none⟩) (Nat.le_refl _) _ | exact hk6.out.mono (Nat.le_succ _) | exact hk5.out.mono (Nat.le_succ _) | exact hk4.out.mono (Nat.le_succ _) | exact hk3.out.mono (Nat.le_succ _) | exact (Below.refl _ _).drew))
    (first
      | (go_at_call 44; have HR5' := HR5.out; refine (packBits_any L (a.length + b.length) HLe.out hf A3 c3 w5 HR5').mono ?_; rintro e w6 ⟨A4, c4, rfl, R4, B4⟩; have hk6 : Hid (Below (w.heap.size + 3) w2 w6) := HT.out w5 w6 hk5.out B4; obtain ⟨⟨d0, d1, g0, g1⟩, HG⟩ := HFin.out w6 A4 c4 R4 hk6.out; clear R4 B4 HR5')
      | (go_at_call 33; have ho := HO1.out; refine (HBB.out w3 (HLow.out _ hk3.out)).mono ?_; rintro e w4 ⟨A2, c2, rfl, ho2, hb2⟩; have HO2 := Lib.hid ho2; have HO1' := Lib.hid (own_below ho hb2); have hk4 : Hid (Below (w.heap.size + 3) w2 w4) := HT.out w3 w4 hk3.out hb2; clear ho ho2 hb2)
      | (go_at_call 33; refine (HBA.out w2 (HLow.out _ (Below.refl _ _))).mono ?_; rintro e w3 ⟨A1, c1, rfl, ho1, hb1⟩; have HO1 := Lib.hid ho1; have hk3 : Hid (Below (w.heap.size + 3) w2 w3) := hb1.mono HS2.out; clear ho1 hb1)
      | (refine app3s (by rfl) _ _ (by rfl) w2.heap.size (.slice A1 a.length c1) a.length (ic a) (by rfl) HO1'.out A2 b.length c2 (ic b) (by rfl) (own_rdv HO2.out) (ic_length _) (ic_one _) (own_none HO2.out) (by omega) hk4.out.size ?_; intro v3 w5 hown3 hgrow3; obtain ⟨A3, c3, rfl⟩ := own_slice3 hown3; have HR5 : Hid (RdV w5 w5.heap.size A3 (ic L)) := HRL.out w5 A3 c3 hown3; have hk5 : Hid (Below (w.heap.size + 3) w2 w5) := join_grown hk4.out HS2.out (Nat.le_trans HS2.out hk4.out.size) HO1'.out hgrow3; clear hown3 hgrow3))
  go_wp2
  exact bodyPost_ret (v := .tuple #[.agg #[.int .i64 (L.length : Int), .slice A4 (pack L).length c4], .int .i64 0]) (by simp [results, Try.results20, go_sem, d0, d1]) rfl HG.out

theorem rjoin_any (lx ly : Int) (A B : Option Addr) (c d : Nat) (xs ys : List Nat) (w : World) (hx : ∀ b ∈ xs, b < 256) (hA : Rd w w.heap.size A xs) (hy : ∀ b ∈ ys, b < 256) (hB : Rd w w.heap.size B ys) :
    Calls Try.prog 20 #[.agg #[.int .i64 lx, .slice A xs.length c], .agg #[.int .i64 ly, .slice B ys.length d]] w (Gave w (if joinE lx xs ly ys = 0 then unpack lx.toNat xs ++ unpack ly.toNat ys else []) (joinE lx xs ly ys)) := by
  by_cases h : chk lx xs = 0
  · by_cases h2 : chk ly ys = 0
    · obtain ⟨a, rfl, ha, rfl⟩ := chk_zero lx xs hx h
      obtain ⟨b, rfl, hb, rfl⟩ := chk_zero ly ys hy h2
      have e : joinE (a.length : Int) (pack a) (b.length : Int) (pack b) = if 8192 < a.length + b.length then 8 else 0 := by
        unfold joinE
        rw [if_neg (by omega), if_neg (by omega)]
        by_cases hf : 8192 < a.length + b.length
        · rw [if_pos hf, if_pos (by omega)]
        · rw [if_neg hf, if_neg (by omega)]
      rw [e, Int.toNat_natCast, Int.toNat_natCast, unpack_pack, unpack_pack]
      by_cases hf : 8192 < a.length + b.length
      · rw [if_pos hf, if_neg (by decide)]
        exact rjoin_b _ _ A B c d _ _ w hx hA h hy hB 0 h2 (.inr ⟨rfl, by omega, by omega, by omega, by omega, by omega⟩) 8 rfl
      · rw [if_neg hf, if_pos rfl]
        exact rjoin_ok a b _ (by omega) A B c d w hA hB rfl
    · have e : joinE lx xs ly ys = chk ly ys := by unfold joinE; rw [if_neg (by omega), if_pos h2]
      rw [e, if_neg h2]
      exact rjoin_b lx ly A B c d xs ys w hx hA h hy hB _ rfl (.inl h2) _ (by rw [if_neg h2])
  · have e : joinE lx xs ly ys = chk lx xs := by unfold joinE; rw [if_pos h]
    rw [e, if_neg h]
    exact rjoin_a lx ly A B c d xs ys w hx hA _ rfl h
end Go.Proofs.Ytabmmamaihiljaa
