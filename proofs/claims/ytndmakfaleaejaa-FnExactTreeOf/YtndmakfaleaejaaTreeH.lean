/- The tree of a node of a heap, as data, level by level. -/
import Derived.Test.YtndmakfaleaejaaAboveWalks
import Derived.Test.YtndmakfaleaejaaTreeOwn
namespace Go.Proofs.Ytndmakfaleaejaa
open Go.RowKit
def treeH (h : HeapD) : Nat → Int → TreeD
  | 0, _ => ⟨ByteArray.empty, []⟩
  | n + 1, id => match nodeAt h id with
    | none => ⟨ByteArray.empty, []⟩
    | some x => ⟨x.vTag, x.vKids.map (treeH h n)⟩
theorem treeH_some {h : HeapD} {n : Nat} {id : Int} {x : NodeD} (e : nodeAt h id = some x) : treeH h (n + 1) id = ⟨x.vTag, x.vKids.map (treeH h n)⟩ := by simp [treeH, e]
/-- how many levels there may be from a node down -/
def lvl (h : HeapD) (id : Int) : Nat := h.vNodes.length + 1 - (upL h h.vNodes.length id).length
theorem kidsF_all {h : HeapD} {id : Int} : ∀ (xs : List Int) (pre : List Int), kidsF h id pre xs = true → ∀ k ∈ xs, ∃ y, nodeAt h k = some y ∧ y.vParent = id := by
  intro xs
  induction xs with
  | nil => intro pre _ k hk; cases hk
  | cons x xs ih =>
    intro pre e k hk
    unfold kidsF at e
    simp only [Bool.and_eq_true] at e
    rcases List.mem_cons.1 hk with q | q
    · subst q
      have hb := e.1
      unfold kidB at hb
      cases hn : nodeAt h k with
      | none => rw [hn] at hb; simp at hb
      | some y =>
        rw [hn] at hb
        simp at hb
        exact ⟨y, rfl, hb.1⟩
    · exact ih _ e.2 k q
theorem kids_there {h : HeapD} (e : specB h = true) {id : Int} {x : NodeD} (hx : nodeAt h id = some x) : ∀ k ∈ x.vKids, ∃ y, nodeAt h k = some y ∧ y.vParent = id := by
  obtain ⟨hm, hid⟩ := get_mem _ _ hx
  obtain ⟨i, hi, rfl⟩ := List.getElem_of_mem hm
  have hb := nodesF_all (spec_parts e).2.1 i hi
  unfold nodeB kidsB at hb
  simp only [Bool.and_eq_true] at hb
  have := kidsF_all _ _ hb.1.1.2
  rwa [hid] at this
theorem lvl_pos (h : HeapD) (id : Int) : 0 < lvl h id := by
  unfold lvl
  have := upL_length h h.vNodes.length id
  omega
theorem lvl_kid {h : HeapD} (e : specB h = true) {id k : Int} {y : NodeD} (hy : nodeAt h k = some y) (hp : y.vParent = id) : lvl h id = lvl h k + 1 := by
  have hz : nodeAt h 0 = none := node_zero (spec_impl h ▸ e)
  have h1 := upL_eq hz hy (up_ends e hy)
  rw [hp] at h1
  unfold lvl
  rw [h1, List.length_cons]
  have := upL_length h h.vNodes.length k
  rw [h1, List.length_cons] at this
  omega
end Go.Proofs.Ytndmakfaleaejaa
