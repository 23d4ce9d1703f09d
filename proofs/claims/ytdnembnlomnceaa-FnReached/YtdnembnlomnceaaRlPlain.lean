/- What is reached: plain facts, for the law. -/
import Derived.Test.YtdnembnlomnceaaReachedPlain
import Derived.Test.YtdnembnlomnceaaSameInts
namespace Go.Proofs.Ytdnembnlomnceaa
theorem from_last {E : Int → List Int} {fs : List Int} {x : Int} (h : From E fs x) : x ∈ fs ∨ ∃ k, From E fs k ∧ k ≠ x ∧ x ∈ E k := by
 obtain ⟨r, hr, n, hn⟩ := h
 have key : ∀ (n : Nat) (r : Int), From E fs r → RTn E n r x → x = r ∨ ∃ k, From E fs k ∧ k ≠ x ∧ x ∈ E k := by
  intro n
  induction n with
  | zero => intro r _ h; exact Or.inl h.symm
  | succ n ih =>
   rintro r ⟨u, hu, hU⟩ ⟨y, hy, h⟩
   rcases ih y ⟨u, hu, hU.snoc hy⟩ h with e | e
   · by_cases q : r = x
     · exact Or.inl q.symm
     · exact Or.inr ⟨r, ⟨u, hu, hU⟩, q, e ▸ hy⟩
   · exact Or.inr e
 rcases key n r ⟨r, hr, RT.refl E r⟩ hn with e | e
 · exact Or.inl (e ▸ hr)
 · exact Or.inr e
theorem reached_iff {h : HeapD} (e : specB h = true) (hs : h.small) : Rises (reachedD h) ∧ ∀ k, k ∈ reachedD h ↔ From (edgesS h) (rootsD h) k := by
 unfold reachedD
 rw [if_pos e]
 exact belD_is e hs (roots_there e)
theorem reach_root {h : HeapD} (e : specB h = true) (hs : h.small) {x : Int} (hx : x ∈ rootsD h) : hasB (reachedD h) x = true :=
 (hasB_iff _ _).2 (((reached_iff e hs).2 x).2 ⟨x, hx, RT.refl _ _⟩)
theorem reach_within {h : HeapD} (e : specB h = true) (hs : h.small) {x : Int} (hx : x ∈ reachedD h) : withinB (edgesD h x) (reachedD h) = true := by
 unfold withinB edgesD
 rw [if_pos e]
 refine List.all_eq_true.2 fun z hz => (hasB_iff _ _).2 ?_
 have q := (reached_iff e hs).2
 obtain ⟨u, hu, hU⟩ := (q x).1 hx
 exact (q z).2 ⟨u, hu, hU.snoc hz⟩
theorem reach_less {h : HeapD} (e : specB h = true) (hs : h.small) {j : Nat} (hj : j + 1 < (reachedD h).length) : (reachedD h)[j] < (reachedD h)[j + 1] :=
 List.pairwise_iff_getElem.1 (reached_iff e hs).1 j (j + 1) (by omega) hj (by omega)
theorem reach_last {h : HeapD} (e : specB h = true) (hs : h.small) {x : Int} (hx : x ∈ reachedD h) : x = h.vDoc ∨ (∃ j, ∃ hj : j < h.vGlobals.length, h.vGlobals[j].vObj = x) ∨ ∃ k, ∃ hk : k < (reachedD h).length, (reachedD h)[k] ≠ x ∧ hasB (edgesD h (reachedD h)[k]) x = true := by
 have q := (reached_iff e hs).2
 rcases from_last ((q x).1 hx) with r | ⟨k, h1, h2, h3⟩
 · rcases List.mem_cons.1 r with r | r
   · exact Or.inl r
   · obtain ⟨f, hf, rfl⟩ := List.mem_map.1 r
     obtain ⟨j, hj, rfl⟩ := List.getElem_of_mem hf
     exact Or.inr (Or.inl ⟨j, hj, rfl⟩)
 · obtain ⟨j, hj, rfl⟩ := List.getElem_of_mem ((q k).2 h1)
   refine Or.inr (Or.inr ⟨j, hj, h2, (hasB_iff _ _).2 ?_⟩)
   unfold edgesD
   rw [if_pos e]
   exact h3
end Go.Proofs.Ytdnembnlomnceaa
