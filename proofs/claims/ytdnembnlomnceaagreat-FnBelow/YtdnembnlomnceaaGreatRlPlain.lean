/- What is reached: plain facts, for the law. -/
import Derived.Test.YtdnembnlomnceaaGreatReachedPlain
import Derived.Test.YtdnembnlomnceaaGreatSameInts
namespace Go.Proofs.YtdnembnlomnceaaGreat
theorem from_last {E : Int → List Int} {fs : List Int} {x : Int} (h : From E fs x) : x ∈ fs ∨ ∃ k, From E fs k ∧ k ≠ x ∧ x ∈ E k := by
 obtain ⟨r, hr, n, hn⟩ := h
 have key : ∀ (n : Nat) (r : Int), From E fs r → RTn E n r x → x = r ∨ ∃ k, From E fs k ∧ k ≠ x ∧ x ∈ E k := by
  intro n
  induction n with
  | zero => intro r _ h; exact Or.inl h.symm
  | succ n ih =>
   rintro r ⟨u, hu, hU⟩ ⟨y, hy, h⟩
   rcases ih y ⟨u, hu, hU.snoc hy⟩ h with e | e
   · by_cases q : r = x
     · exact Or.inl q.symm
     · exact Or.inr ⟨r, ⟨u, hu, hU⟩, q, e ▸ hy⟩
   · exact Or.inr e
 rcases key n r ⟨r, hr, RT.refl E r⟩ hn with e | e
 · exact Or.inl (e ▸ hr)
 · exact Or.inr e
end Go.Proofs.YtdnembnlomnceaaGreat
