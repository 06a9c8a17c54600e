/- Rows of structs: what Go's sort leaves in a row of the call's own; no condition but those that each fact names. -/
import Derived.Test.YthfjfkbolfnkkaaKLay
import Derived.Test.YthfjfkbolfnkkaaKCmpW
import Derived.Shelf.SlSortCmp.NoneTotal
namespace Go.Proofs.Ythfjfkbolfnkkaa
set_option maxRecDepth 100000
set_option linter.unusedVariables false
open Go.RowKit Go.Shelf Go.Sort

theorem toList_get {l : List Value} {F : Array Value} (hs : F.size = l.length) (h : ∀ t, t < l.length → F[t]! = l[t]?.getD default) : F.toList = l := by
  apply List.ext_getElem (by simpa using hs)
  intro i h1 h2
  have := h i h2
  rw [List.getElem?_eq_getElem h2, Option.getD_some] at this
  rw [← this, Array.getElem_toList, getElem!_pos F i (by simpa using h1)]
theorem get!_of {α : Type} [Inhabited α] (l : List α) (i : Nat) : l.toArray[i]! = l[i]?.getD default := by simp [List.getElem!_eq_getElem?_getD]
theorem flatMap_get {α : Type} [Inhabited α] (enc : α → List Value) (k : Nat) (hk : ∀ x, (enc x).length = k) : ∀ (l : List α) (t : Nat), t < l.length * k → (l.flatMap enc)[t]?.getD default = (enc (l[t / k]?.getD default))[t % k]?.getD default
  | [], t, h => by simp at h
  | x :: l, t, h => by
    have k0 : 0 < k := by
      rcases Nat.eq_zero_or_pos k with rfl | h'
      · simp at h
      · exact h'
    rw [List.flatMap_cons]
    by_cases ht : t < k
    · rw [List.getElem?_append_left (by rw [hk]; exact ht), Nat.div_eq_of_lt ht, Nat.mod_eq_of_lt ht]; rfl
    · have e1 : t / k = (t - k) / k + 1 := by
        have : t = (t - k) + k := by omega
        conv => lhs; rw [this]
        rw [Nat.add_div_right _ k0]
      have e2 : t % k = (t - k) % k := by
        have : t = (t - k) + k := by omega
        conv => lhs; rw [this]
        rw [Nat.add_mod_right]
      rw [List.getElem?_append_right (by rw [hk]; omega), hk, e1, e2, List.getElem?_cons_succ]
      exact flatMap_get enc k hk l (t - k) (by simp [Nat.add_mul] at h; omega)
theorem flatMap_len {α : Type} (enc : α → List Value) (k : Nat) (hk : ∀ x, (enc x).length = k) : ∀ l : List α, (l.flatMap enc).length = l.length * k
  | [] => by simp
  | x :: l => by rw [List.flatMap_cons, List.length_append, hk, flatMap_len enc k hk l, List.length_cons, Nat.add_mul]; omega
theorem flatK_list {α : Type} [Inhabited α] (enc : α → List Value) (k : Nat) (hk : ∀ x, (enc x).length = k) (l : List α) : (flatK enc k l.toArray).toList = l.flatMap enc := by
  have hl := flatMap_len enc k hk l
  refine toList_get (by rw [size_flatK, hl]; simp) (fun t ht => ?_)
  rw [hl] at ht
  rw [get_flatK _ _ _ _ (by simpa using ht), flatMap_get enc k hk l t ht, get!_of, List.getElem!_eq_getElem?_getD]
theorem perm_list {α : Type} [Inhabited α] {lt : α → α → Bool} {d d' : Array α} (hP : PermIn 0 d.size d d') (hS : SortedIn lt 0 d.size d') : d'.toList.Perm d.toList ∧ d'.toList.Pairwise (fun x y => lt y x = false) := by
  obtain ⟨hsz, _, hperm⟩ := hP
  have e1 : d'.extract 0 d.size = d' := by rw [← hsz]; exact Array.extract_size
  rw [e1, Array.extract_size] at hperm
  refine ⟨hperm, List.pairwise_iff_getElem.2 fun i j hi hj hij => ?_⟩
  have hj' : j < d'.size := by simpa using hj
  have := hS i j (Nat.zero_le _) hij (by omega)
  rwa [getElem!_pos d' i (by omega), getElem!_pos d' j hj'] at this

theorem own_holdsK {α : Type} [Inhabited α] (enc : α → List Value) (k : Nat) (hk : ∀ x, (enc x).length = k) {w : World} {base : Nat} {e : TypeId} {g n cap : Nat} (l : List α)
    (h : w.ownsRow base e k (.slice (some ⟨g, 0, none⟩) n cap) n (l.flatMap enc)) (hn : l.length = n) : HoldsK enc k w g 0 l.toArray := by
  intro j hj
  rw [size_flatK] at hj
  have hj2 : j < n * k := by simpa [hn] using hj
  have hfl := flatK_list enc k hk l
  rcases h.2 with ⟨h, _⟩ | ⟨g', cap', cur, hv, _, hg, h1, h2, h3, h4⟩
  · cases h
  · simp only [Value.slice.injEq, Option.some.injEq, Addr.mk.injEq, and_true, true_and] at hv
    obtain ⟨rfl, rfl⟩ := hv
    have hc : n * k ≤ cap * k := Nat.mul_le_mul_right k h1
    have hjc : j < cur.size := by omega
    have hcell : cur[j]? = some (flatK enc k l.toArray)[j]! := by
      have e1 : (cur.toList.take (n * k))[j]? = cur[j]? := by rw [List.getElem?_take_of_lt hj2]; simp
      rw [← e1, h4, ← hfl, getElem!_pos _ j (by rw [size_flatK]; exact hj)]
      simp
    constructor
    · rw [Nat.zero_add, cell_at hg, hcell]; rfl
    · simp [World.frozen?, hg]
theorem put_own {α : Type} [Inhabited α] (enc : α → List Value) (k : Nat) (hk : ∀ x, (enc x).length = k) {w : World} {base : Nat} {e : TypeId} {g n cap : Nat} (l l' : List α)
    (h : w.ownsRow base e k (.slice (some ⟨g, 0, none⟩) n cap) n (l.flatMap enc)) (hn : l.length = n) (hn' : l'.length = n) (m : Nat) (os : Array Obj) :
    (sortWorldK enc k w g 0 m l'.toArray os).ownsRow base e k (.slice (some ⟨g, 0, none⟩) n cap) n (l'.flatMap enc) ∧ Below base w (sortWorldK enc k w g 0 m l'.toArray os) := by
  rcases h.2 with ⟨h, _⟩ | ⟨g', cap', cur, hv, hb, hg, h1, h2, h3, h4⟩
  · cases h
  · simp only [Value.slice.injEq, Option.some.injEq, Addr.mk.injEq, and_true, true_and] at hv
    obtain ⟨rfl, rfl⟩ := hv
    have hgs : g < w.heap.size := (Array.getElem?_eq_some_iff.1 hg).1
    have hc : n * k ≤ cap * k := Nat.mul_le_mul_right k h1
    have hsz : (sortWorldK enc k w g 0 m l'.toArray os).heap.size = w.heap.size + os.size := by
      unfold sortWorldK; rw [size_grow]; unfold putRowK; rw [size_putRow]; rfl
    have hheap : ∀ j, j < w.heap.size → (sortWorldK enc k w g 0 m l'.toArray os).heap[j]? = (w.heap.modify g (onCells (putCells id 0 (flatK enc k l'.toArray))))[j]? := by
      intro j hj
      unfold sortWorldK
      rw [heap_grow_old _ _ (by unfold putRowK; rw [size_putRow]; exact hj)]
      rfl
    constructor
    · refine ⟨by rw [flatMap_len enc k hk, hn'], .inr ⟨g, cap, putCells id 0 (flatK enc k l'.toArray) cur, rfl, hb, ?_, h1, h2, by simp [putCells]; exact h3, ?_⟩⟩
      · rw [hheap g hgs, Array.getElem?_modify, hg]; simp [onCells]
      · rw [← flatK_list enc k hk l']
        apply List.ext_getElem
        · simp [putCells, size_flatK, hn']; omega
        · intro i q1 q2
          have hi : i < n * k := by simp [size_flatK, hn'] at q2; exact q2
          simp only [putCells, List.getElem_take, Array.getElem_toList, Array.getElem_mapIdx]
          rw [if_pos ⟨Nat.zero_le _, by rw [size_flatK]; simp [hn']; omega⟩, Nat.sub_zero, getElem!_pos _ i (by rw [size_flatK]; simp [hn']; omega)]
          rfl
    · refine ⟨rfl, rfl, rfl, by rw [hsz]; omega, fun j hj => ?_⟩
      rw [hheap j (by omega), Array.getElem?_modify, if_neg (by omega)]

/-! ### The order of words -/
theorem compareInt_lt (a b : Int) : Lib.compareInt a b < 0 ↔ a < b := by unfold Lib.compareInt; split <;> (try split) <;> simp_all <;> omega
theorem compareInt_zero (a b : Int) : Lib.compareInt a b = 0 ↔ a = b := by unfold Lib.compareInt; split <;> (try split) <;> simp_all <;> omega
theorem orI_lt (a b c d : Int) : orI (Lib.compareInt a b) (Lib.compareInt c d) < 0 ↔ a < b ∨ (a = b ∧ c < d) := by
  unfold orI
  by_cases h : Lib.compareInt a b = 0
  · rw [if_pos h, compareInt_lt]
    have := (compareInt_zero a b).1 h
    omega
  · rw [if_neg h, compareInt_lt]
    have : ¬ a = b := fun e => h ((compareInt_zero a b).2 e)
    omega
/-- Two numbers are compared, then two more. -/
theorem swo_or {α : Type} (p q : α → Int) : SWO (ltOf fun x y : α => orI (Lib.compareInt (p x) (p y)) (Lib.compareInt (q x) (q y))) where
  irrefl x := by unfold ltOf; rw [decide_eq_false_iff_not, orI_lt]; omega
  trans x y z h1 h2 := by unfold ltOf at *; rw [decide_eq_true_eq, orI_lt] at *; omega
  ntrans x y z h1 h2 := by unfold ltOf at *; rw [decide_eq_false_iff_not, orI_lt] at *; omega
end Go.Proofs.Ythfjfkbolfnkkaa
