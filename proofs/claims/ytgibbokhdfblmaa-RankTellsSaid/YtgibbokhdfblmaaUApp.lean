/- Numbers are appended to numbers of the call's own, whether they are nil or not. -/
import Derived.Test.YtgibbokhdfblmaaRefList
import Derived.Test.YtgibbokhdfblmaaOpen2
import Derived.Laws.AppendOwnNone
namespace Go.Proofs.Ytgibbokhdfblmaa
set_option maxRecDepth 100000
set_option linter.unusedVariables false
open Go.ChangeShapes Go.WideShapes Go.ChangeAt Go.RowKit Go.Joins

theorem nc_one (ns : List Nat) : ∀ u ∈ nc ns, u.oneCell' = true := by
  intro u hu
  simp only [nc, List.mem_map] at hu
  obtain ⟨x, _, rfl⟩ := hu
  rfl

theorem app25 {w : World} {ops : Array Oper} {rest : List Oper} {o : Oper} {a : Act} {Q : Exit → Act → World → Prop} (hgd : o.guard = none) (s x : Operand)
    (ho : o.op = .call { callee := .builtin .append, args := #[s, x], argTypes := #[26, 26] }) (base : Nat)
    (v : Value) (n : Nat) (xs : List Value) (hs : a.eval s = v) (hown : w.ownsRow base 22 1 v n xs)
    (A : Option Addr) (m c : Nat) (news : List Value) (hx : a.eval x = .slice A m c) (hr : RdV w w.heap.size A news) (hlen : news.length = m) (h1 : ∀ u ∈ news, u.oneCell' = true) (hc : A = none → c = 0)
    (hb : (n + m) * 8 ≤ 140737488355328) (hbase : base ≤ w.heap.size)
    (h : ∀ v' w', w'.ownsRow base 22 1 v' (n + m) (xs ++ news) → w.grownBy w' v.ownBlock → wpList Try.prog ops Q rest (a.put o.dst v') w') : wpList Try.prog ops Q (o :: rest) a w := by
  obtain ⟨i0, hi, hz0, hz1, hz2⟩ := info_parts info25
  rcases A with _ | ad
  · obtain rfl : news = [] := by
      rcases hr with h | ⟨b, off, h, _⟩
      · exact h
      · cases h
    obtain rfl : m = 0 := by simpa using hlen.symm
    obtain rfl := hc rfl
    refine wpList_append_own_none hgd s x 26 ho base 22 i0 1 Try.underlying26 hi v n xs hs hown hx ?_
    refine h v w ?_ (World.grownBy.refl w _)
    simpa using hown
  · refine wpList_append_own w hgd s x 26 ho base 22 i0 (.int .u64 0) 1 8 Try.underlying26 hi hz0 hz1 hz2 rfl (by decide) v n xs hs hown ad m c news hx (by omega) ?_ h1 (by unfold maxLen; omega) hb hbase (fun v' w' h2 h3 _ => h v' w' h2 h3)
    rcases hr with rfl | ⟨b, off, e, _, hcell⟩
    · intro j u hu; simp at hu
    · cases e
      intro j u hu
      have ha : (⟨b, off, none⟩ : Addr).add j = ⟨b, off + j, none⟩ := by unfold Addr.add; split <;> simp_all
      rw [ha]
      exact hcell j u hu

/-- Numbers that were handed in; nil has no room. -/
theorem open_nums2 {H : Type} {enc : TypeId × Value → H} {W : World} {base : Nat} {v : Value} {d : DataW H} {p : List MemPlace}
    (hv : Value.okWide Try.prog W .any base 26 v) (h : DataW.Trod enc Try.prog W 0 (fun _ => true) true 26 v d p) :
    ∃ (A : Option Addr) (c : Nat) (ns : List Nat), v = .slice A ns.length c ∧ RdV W W.heap.size A (nc ns) ∧ (A = none → c = 0) ∧ ns.length ≤ 9223372036854775807 := by
  have h' := h
  obtain ⟨A, c, ns, rfl, h1, _, h3⟩ := open_nums hv h
  refine ⟨A, c, ns, rfl, h1, ?_, h3⟩
  rintro rfl
  obtain ⟨fuel, hf⟩ := h'
  rcases open_ints Try.underlying26 Try.underlying22 cells25 hf with ⟨hcs, _⟩ | ⟨x, l, c, zs, hcs, _⟩
  · simp [Value.cells] at hcs
    exact hcs.2
  · simp [Value.cells] at hcs
end Go.Proofs.Ytgibbokhdfblmaa
