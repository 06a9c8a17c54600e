/- A writer is made that goes on behind given bits, whose bytes are copied. -/
import Derived.Test.YtgibbokhdfblmaaAddBit
import Derived.Deep.RegionLaw
namespace Go.Proofs.Ytgibbokhdfblmaa
open Go.RowKit

theorem bc_one (bs : List Nat) : ∀ u ∈ bc bs, u.oneCell' = true := by
  intro u hu
  simp only [bc, List.mem_map] at hu
  obtain ⟨x, _, rfl⟩ := hu
  rfl

theorem news_of {w W : World} {b off : Nat} {bs : List Nat} (hb : b < w.heap.size) (hk : ∀ k, k < w.heap.size → W.heap[k]? = w.heap[k]?)
    (hc : ∀ i, i < bs.length → w.cell? ⟨b, off + i, none⟩ = some (.int .u8 ((bs[i]?.getD 0 : Nat) : Int))) :
    ∀ j u, (bc bs)[j]? = some u → W.cell? ((⟨b, off, none⟩ : Addr).add j) = some u := by
  intro j u hu
  have hj : j < bs.length := by
    rcases Nat.lt_or_ge j bs.length with h | h
    · exact h
    · rw [List.getElem?_eq_none (by rw [bc_length]; exact h)] at hu; cases hu
  rw [bc_get bs j hj] at hu
  cases hu
  have ha : (⟨b, off, none⟩ : Addr).add j = ⟨b, off + j, none⟩ := by unfold Addr.add; split <;> simp_all
  rw [ha]
  exact (World.cell?_of_block (w := w) (a := ⟨b, off + j, none⟩) (hk b hb)).trans (hc j hj)

/-- What comes back from the copy: a slice of the call's own. -/
def Copied (w : World) (len : Int) (n : Nat) (bs : List Nat) (e : Ending) (w' : World) : Prop :=
  ∃ A c, e = .returned (.agg #[.int .i64 len, .slice A n c]) ∧ w'.ownsRow w.heap.size 5 1 (.slice A n c) n (bc bs) ∧ Below w.heap.size w w'

set_option maxHeartbeats 400000 in
theorem copy_nil (len : Int) (w : World) (A : Option Addr) (c : Nat) :
    Calls Try.prog 67 #[.agg #[.int .i64 len, .slice A 0 c]] w (Copied w len 0 []) := by
  rcases A with _ | a
  all_goals
    go_enter Try.func67, Try.ntmps67
    go_wp2
    go_region
    go_wp2
    refine bodyPost_ret (v := .agg #[.int .i64 len, .slice none 0 0]) (by simp [results, Try.results67, go_sem]) rfl ⟨none, 0, rfl, ⟨rfl, .inl ⟨rfl, rfl⟩⟩, ?_⟩
    exact (((Below.refl _ w).alloc (Nat.le_refl _) _).alloc (by simp) _).drew

theorem two_size (w : World) (o p : Obj) : (((w.alloc o).alloc p).drew).heap.size = w.heap.size + 2 := by
  show ((w.heap.push o).push p).size = _
  simp
theorem two_old (w : World) (o p : Obj) (k : Nat) (hk : k < w.heap.size) : (((w.alloc o).alloc p).drew).heap[k]? = w.heap[k]? := by
  show ((w.alloc o).alloc p).heap[k]? = _
  rw [Below.heap_alloc _ _ _ (by simp; omega), Below.heap_alloc _ _ _ hk]
theorem two_new (w : World) (o p : Obj) : (((w.alloc o).alloc p).drew).heap[w.heap.size + 1]? = some p := by
  show ((w.alloc o).alloc p).heap[w.heap.size + 1]? = _
  have := World.alloc_heap_new (w.alloc o) p
  rwa [World.size_alloc] at this

/-- Behind the append of the bytes to nothing. -/
theorem copy_facts {w w1 : World} {s : Value} {g cap n : Nat} {len : Int} {bs : List Nat}
    (hg : (((w.alloc (.cells #[.int .i64 len, s] 25)).alloc (.cells #[.int .i64 0, .slice none 0 0] 100)).drew).grownBy w1 (Value.slice none 0 0).ownBlock)
    (ho : w1.ownsRow w.heap.size 5 1 (.slice (some ⟨g, 0, none⟩) n cap) n (bc bs)) (hl : g = w.heap.size + 2) :
    (w1.cell? ⟨w.heap.size + 1, 0, none⟩ = some (.int .i64 0) ∧ w1.cell? ⟨w.heap.size + 1, 1, none⟩ = some (.slice none 0 0) ∧ w1.frozen? ⟨w.heap.size + 1, 0, none⟩ = false ∧ w1.frozen? ⟨w.heap.size + 1, 1, none⟩ = false) ∧
    (w1.cell? ⟨w.heap.size, 0, none⟩ = some (.int .i64 len) ∧ w1.cell? ⟨w.heap.size, 1, none⟩ = some s) ∧
    Hid (Copied w len n bs (.returned (.agg #[.int .i64 len, .slice (some ⟨g, 0, none⟩) n cap])) ((w1.setCell ⟨w.heap.size + 1, 0, none⟩ (.int .i64 len)).setCell ⟨w.heap.size + 1, 1, none⟩ (.slice (some ⟨g, 0, none⟩) n cap))) := by
  have hW1 := (hg.block (w.heap.size + 1) (by rw [two_size]; omega) (by simp [Value.ownBlock])).trans (two_new w _ _)
  have hW0 : w1.heap[w.heap.size]? = some (.cells #[.int .i64 len, s] 25) := (hg.block w.heap.size (by rw [two_size]; omega) (by simp [Value.ownBlock])).trans ((Below.heap_alloc _ _ _ (by simp)).trans (World.alloc_heap_new w _))
  refine ⟨wr_cells hW1, ⟨by simp [World.cell?, hW0], by simp [World.cell?, hW0]⟩, some ⟨g, 0, none⟩, cap, rfl, ?_, ?_⟩
  · refine (ho.kept (row := some (w.heap.size + 1)) (w' := w1.setCell ⟨w.heap.size + 1, 0, none⟩ (.int .i64 len)) ⟨rfl, rfl, rfl, by simp [World.setCell], fun k _ hk => Below.heap_setCell _ _ _ _ (fun e => hk (by rw [e]))⟩ (.inr ?_)).kept (row := some (w.heap.size + 1)) ⟨rfl, rfl, rfl, by simp [World.setCell], fun k _ hk => Below.heap_setCell _ _ _ _ (fun e => hk (by rw [e]))⟩ (.inr ?_)
    all_goals simp [Value.ownBlock, hl]
  · refine (((((((Below.refl _ w).alloc (Nat.le_refl _) _).alloc (by simp) _).drew).grown hg (by rw [two_size]; omega) (by simp [Value.ownBlock])).setCell (p := ⟨w.heap.size + 1, 0, none⟩) (by simp) _).setCell (p := ⟨w.heap.size + 1, 1, none⟩) (by simp) _)

set_option maxHeartbeats 400000 in
theorem copy_some (len : Int) (w : World) (b off n : Nat) (c : Nat) (bs : List Nat) (hn : bs.length = n) (hp : 0 < n) (hb : b < w.heap.size) (h1 : n ≤ 1024)
   (hc : ∀ i, i < bs.length → w.cell? ⟨b, off + i, none⟩ = some (.int .u8 ((bs[i]?.getD 0 : Nat) : Int))) :
    Calls Try.prog 67 #[.agg #[.int .i64 len, .slice (some ⟨b, off, none⟩) n c]] w (Copied w len n bs) := by
  obtain ⟨i0, hi, hz0, hz1, hz2⟩ := info_parts info5
  have HC : Hid (∀ W : World, (∀ k, k < w.heap.size → W.heap[k]? = w.heap[k]?) → ∀ j u, (bc bs)[j]? = some u → W.cell? ((⟨b, off, none⟩ : Addr).add j) = some u) := fun W hk => news_of hb hk hc
  clear hc
  have HN := Lib.hid hn; clear hn
  go_enter Try.func67, Try.ntmps67
  go_wp2
  go_region_law (refine step_append_lies _ rfl _ _ 23 rfl w.heap.size 5 i0 (.int .u8 0) 1 1 Try.underlying23 hi hz0 hz1 hz2 rfl (by decide) (.slice none 0 0) 0 [] rfl ⟨rfl, .inl ⟨rfl, rfl⟩⟩ ⟨b, off, none⟩ n c (bc bs) rfl (by rw [bc_length, HN.out]; omega) (HC.out _ (fun k hk => two_old w _ _ k hk)) (bc_one bs) hp (by unfold maxLen; omega) (by omega) (by rw [two_size]; omega) (w.heap.size + 2) (two_size w _ _) ?_; intro g' cap' w1 hown' hgrow hlies hlt; obtain ⟨⟨d0, d1, e0, e1⟩, ⟨d2, d3⟩, HR⟩ := @copy_facts w w1 _ g' cap' n len bs hgrow (by simpa using hown') (by rcases hlies with h | h; (simp [Value.ownBlock] at h); exact h); clear hgrow hown' hlies; rw [Nat.zero_add])
  all_goals
    go_wp2
    exact bodyPost_ret (v := .agg #[.int .i64 len, .slice (some ⟨g', 0, none⟩) n cap']) (by simp [results, Try.results67, go_sem, d0, d1]) rfl HR.out

/-- The copy of whatever bits. -/
theorem copy_any (len : Int) (w : World) (A : Option Addr) (c : Nat) (bs : List Nat) (h1 : bs.length ≤ 1024) (h : Rd w w.heap.size A bs) :
    Calls Try.prog 67 #[.agg #[.int .i64 len, .slice A bs.length c]] w (Copied w len bs.length bs) := by
  rcases h with rfl | ⟨b, off, rfl, hb, hc⟩
  · exact copy_nil len w A c
  · rcases Nat.eq_zero_or_pos bs.length with h0 | h0
    · obtain rfl : bs = [] := List.eq_nil_of_length_eq_zero h0
      exact copy_nil len w _ c
    · exact copy_some len w b off bs.length c bs rfl h0 hb h1 hc
end Go.Proofs.Ytgibbokhdfblmaa
