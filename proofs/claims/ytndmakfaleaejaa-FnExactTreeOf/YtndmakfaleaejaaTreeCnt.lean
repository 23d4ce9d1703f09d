/- How many marks the tree of a node takes: few. -/
import Derived.Test.YtndmakfaleaejaaTreeOf
import Derived.Test.YtndmakfaleaejaaCntPlain
namespace Go.Proofs.Ytndmakfaleaejaa
open Go.RowKit
theorem len_of_sub : ∀ (xs ys : List Int), xs.Nodup → (∀ x ∈ xs, x ∈ ys) → xs.length ≤ ys.length := by
  intro xs
  induction xs with
  | nil => intro ys _ _; simp
  | cons x xs ih =>
    intro ys hn hs
    rw [List.nodup_cons] at hn
    have hx := hs x (by simp)
    have h1 := ih (ys.erase x) hn.2 (fun z hz => (List.mem_erase_of_ne (by intro e; subst e; exact hn.1 hz)).2 (hs z (List.mem_cons_of_mem _ hz)))
    rw [List.length_erase_of_mem hx] at h1
    have : 0 < ys.length := List.length_pos_of_mem hx
    simp only [List.length_cons]
    omega
theorem hasB_iff {xs : List Int} {a : Int} : hasB xs a = true ↔ a ∈ xs := by
  induction xs with
  | nil => simp [hasB]
  | cons x xs ih =>
    by_cases e : x = a
    · simp [hasB, e]
    · have e' : ¬ a = x := fun q => e q.symm
      simp [hasB, e, e', ih]
theorem kidsF_nodup {h : HeapD} {id : Int} : ∀ (xs pre : List Int), kidsF h id pre xs = true → pre.Nodup → (pre ++ xs).Nodup := by
  intro xs
  induction xs with
  | nil => intro pre _ hp; simpa using hp
  | cons x xs ih =>
    intro pre e hp
    unfold kidsF at e
    simp only [Bool.and_eq_true] at e
    have hb := e.1
    unfold kidB at hb
    have hx : x ∉ pre := by
      cases hn : nodeAt h x with
      | none => rw [hn] at hb; simp at hb
      | some y =>
        rw [hn] at hb
        simp at hb
        intro q
        rw [hasB_iff.2 q] at hb
        simp at hb
    have := ih (pre ++ [x]) e.2 (List.nodup_append.2 ⟨hp, by simp, fun a ha b hb2 e2 => by simp at hb2; exact hx (by rw [← hb2, ← e2]; exact ha)⟩)
    simpa using this
theorem kids_few {h : HeapD} (e : specB h = true) {id : Int} {x : NodeD} (hx : nodeAt h id = some x) : x.vKids.length ≤ 16 := by
  have hk := kids_there e hx
  obtain ⟨hm, hid⟩ := get_mem _ _ hx
  obtain ⟨i, hi, rfl⟩ := List.getElem_of_mem hm
  have hb := nodesF_all (spec_parts e).2.1 i hi
  unfold nodeB kidsB at hb
  simp only [Bool.and_eq_true] at hb
  have hn := kidsF_nodup _ _ hb.1.1.2 (by simp)
  rw [List.nil_append] at hn
  have := len_of_sub _ (h.vNodes.map NodeD.vId) hn (fun k q => by
    obtain ⟨y, hy, _⟩ := hk k q
    obtain ⟨hm', hid'⟩ := get_mem _ _ hy
    exact List.mem_map.2 ⟨y, hm', hid'⟩)
  have l := (spec_parts e).1
  simp at this
  omega
def bF : Nat → Nat
  | 0 => 0
  | n + 1 => 1 + 16 * bF n
theorem bF_le : ∀ {n m : Nat}, n ≤ m → bF n ≤ bF m := by
  intro n
  induction n with
  | zero => intro m _; exact Nat.zero_le _
  | succ n ih =>
    intro m hm
    obtain ⟨m', rfl⟩ : ∃ m', m = m' + 1 := ⟨m - 1, by omega⟩
    have := ih (m := m') (by omega)
    simp only [bF]
    omega
theorem cntL_few {α : Type} {cnt : α → Nat} {xs : List α} {B : Nat} (hl : xs.length ≤ 16) (h : ∀ i, (hi : i < xs.length) → cnt xs[i] ≤ B) : cntL cnt xs ≤ 16 * B := by
  have h1 := pos_most h xs.length (Nat.le_refl _)
  have h2 := Nat.mul_le_mul_right B hl
  unfold cntL
  omega
theorem cntTree_le {h : HeapD} (e : specB h = true) : ∀ (n : Nat) (id : Int) (x : NodeD), nodeAt h id = some x → lvl h id = n → ∀ L, cntTree L (treeH h n id) ≤ bF n ∧ cntL (cntTree L) (treeH h n id).vKids ≤ 16 * bF (n - 1) := by
  intro n
  induction n with
  | zero => intro id x _ hl; have := lvl_pos h id; omega
  | succ n ih =>
    intro id x hx hl L
    have hk : ∀ L, cntL (cntTree L) (treeH h (n + 1) id).vKids ≤ 16 * bF n := by
      intro L
      rw [treeH_some hx]
      refine cntL_few (by simpa using kids_few e hx) (fun i hi => ?_)
      simp only [List.length_map] at hi
      rw [List.getElem_map]
      obtain ⟨y, hy, hp⟩ := kids_there e hx x.vKids[i] (List.getElem_mem _)
      have := lvl_kid e hy hp
      exact (ih _ y hy (by omega) L).1
    refine ⟨?_, by simpa using hk L⟩
    cases L with
    | zero => simp only [cntTree]; exact Nat.zero_le _
    | succ L =>
      have := hk L
      simp only [cntTree, bF]
      omega
theorem treeOf_cnt {h : HeapD} (L : Nat) (b : Int) : (1 : Int) + (cntL (cntTree L) (treeOfD h b).1.vKids : Nat) ≤ 4611686018427387904 := by
  unfold treeOfD
  split
  · rename_i hc
    simp only [Bool.and_eq_true] at hc
    obtain ⟨x, hx⟩ := Option.isSome_iff_exists.1 hc.2
    have h1 := (cntTree_le hc.1 _ b x hx rfl L).2
    have h2 : lvl h b ≤ 16 := by
      have hz : nodeAt h 0 = none := node_zero (spec_impl h ▸ hc.1)
      have q := upL_eq hz hx (up_ends hc.1 hx)
      have l := (spec_parts hc.1).1
      unfold lvl
      rw [q, List.length_cons]
      omega
    have h3 : bF (lvl h b - 1) ≤ bF 15 := bF_le (by omega)
    have h4 : bF 15 = 76861433640456465 := by decide
    dsimp only
    omega
  · simp [cntL, pos]
end Go.Proofs.Ytndmakfaleaejaa
