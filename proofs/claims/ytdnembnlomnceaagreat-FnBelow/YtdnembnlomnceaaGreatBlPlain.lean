/- What is below some: plain facts, for the law. -/
import Derived.Test.YtdnembnlomnceaaGreatBelowImpl
import Derived.Test.YtdnembnlomnceaaGreatRlPlain
namespace Go.Proofs.YtdnembnlomnceaaGreat
/-- a row of what is below some is right -/
structure BelR (h : HeapD) (ids R : List Int) : Prop where
 e : specB h = true
 hr : Rises R
 hi : ∀ k, k ∈ R ↔ From (edgesS h) ids k
 hin : ∀ k ∈ R, k ∈ idsD h
theorem below_right {h : HeapD} (hs : h.small) {ids : List Int} (hne : (belowA h ids).length ≠ 0) : BelR h ids (belowA h ids) := by
 by_cases e : (specB h && thereB h ids) = true
 · obtain ⟨e1, e2, _⟩ := there_ids e
   have e3 : belowA h ids = belD h ids := by unfold belowA; rw [if_pos e]
   obtain ⟨q1, q2⟩ := belD_is e1 hs e2
   rw [e3]
   exact ⟨e1, q1, q2, fun k hk => from_closed (E := edgesS h) (fs := ids) e2 (fun y hy => edges_there e1 hy) k ((q2 k).1 hk)⟩
 · exact absurd (by unfold belowA; rw [if_neg e]; rfl) hne
theorem BelR.within {h : HeapD} {ids R : List Int} (r : BelR h ids R) {x : Int} (hx : x ∈ R) : withinB (edgesD h x) R = true := by
 unfold withinB edgesD
 rw [if_pos r.e]
 refine List.all_eq_true.2 fun z hz => (hasB_iff _ _).2 ?_
 obtain ⟨u, hu, hU⟩ := (r.hi x).1 hx
 exact (r.hi z).2 ⟨u, hu, hU.snoc hz⟩
theorem BelR.ids {h : HeapD} {ids R : List Int} (r : BelR h ids R) : withinB ids R = true := by
 unfold withinB
 exact List.all_eq_true.2 fun z hz => (hasB_iff _ _).2 ((r.hi z).2 ⟨z, hz, RT.refl _ _⟩)
theorem BelR.last {h : HeapD} {ids R : List Int} (r : BelR h ids R) {x : Int} (hx : x ∈ R) : hasB ids x = true ∨ ∃ k, ∃ hk : k < R.length, R[k] ≠ x ∧ hasB (edgesD h R[k]) x = true := by
 rcases from_last ((r.hi x).1 hx) with q | ⟨k, h1, h2, h3⟩
 · exact Or.inl ((hasB_iff _ _).2 q)
 · obtain ⟨j, hj, rfl⟩ := List.getElem_of_mem ((r.hi k).2 h1)
   refine Or.inr ⟨j, hj, h2, (hasB_iff _ _).2 ?_⟩
   unfold edgesD
   rw [if_pos r.e]
   exact h3
theorem BelR.again {h : HeapD} (hs : h.small) {ids R : List Int} (r : BelR h ids R) : belowA h R = R := by
 have hl : R.length ≤ 32 := by
  have := nodup_len R (idsD h) (lt_nodup r.hr) r.hin
  have := idsD_most r.e
  omega
 have ht : (specB h && thereB h R) = true := by
  rw [r.e, Bool.true_and]
  unfold thereB
  rw [Bool.and_eq_true]
  exact ⟨List.all_eq_true.2 fun x hx => mem_idsU.1 (mem_idsD.1 (r.hin x hx)), decide_eq_true (by omega)⟩
 unfold belowA
 rw [if_pos ht]
 obtain ⟨q1, q2⟩ := belD_is r.e hs r.hin
 refine rises_same _ _ q1 r.hr fun k => ?_
 rw [q2]
 constructor
 · exact from_closed (E := edgesS h) (fs := R) (fun x hx => hx) (fun x hx y hy => by
    obtain ⟨u, hu, hU⟩ := (r.hi x).1 hx
    exact (r.hi y).2 ⟨u, hu, hU.snoc hy⟩) k
 · exact fun hk => ⟨k, hk, RT.refl _ _⟩
end Go.Proofs.YtdnembnlomnceaaGreat
