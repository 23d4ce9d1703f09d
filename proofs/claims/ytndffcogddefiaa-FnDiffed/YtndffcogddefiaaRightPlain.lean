/- A right tree has few kids everywhere, and is right everywhere below: plain facts. -/
import Derived.Test.YtndffcogddefiaaOkWalks
import Derived.Test.YtndffcogddefiaaPathsPlain
namespace Go.Proofs.Ytndffcogddefiaa
theorem szF_len {H : Type} {f : DataW H → Int → Option Int} (hf : ∀ d r q, f d r = some q → 1 ≤ q ∧ q ≤ r) : ∀ (ds : List (DataW H)) (room size m : Int), szF f ds room size = some m → size + (ds.length : Int) ≤ m := by
  intro ds
  induction ds with
  | nil => intro room size m h; simp [szF] at h; simp; omega
  | cons d ds ih =>
    intro room size m h
    unfold szF at h
    split at h
    · cases h
    · rename_i q hq
      have h1 := hf _ _ _ hq
      have h2 := ih _ _ _ h
      simp only [List.length_cons]
      omega
theorem szF_mem {H : Type} {f : DataW H → Int → Option Int} (hf : ∀ d r q, f d r = some q → 1 ≤ q ∧ q ≤ r) : ∀ (ds : List (DataW H)) (room size m : Int), 0 ≤ size → szF f ds room size = some m → ∀ i, (h : i < ds.length) → ∃ r q, f ds[i] r = some q ∧ r ≤ room := by
  intro ds
  induction ds with
  | nil => intro room size m _ _ i h; simp at h
  | cons d ds ih =>
    intro room size m h0 h i hi
    unfold szF at h
    split at h
    · cases h
    · rename_i q hq
      have h1 := hf _ _ _ hq
      cases i with
      | zero => exact ⟨_, _, hq, by omega⟩
      | succ i =>
        simp only [List.getElem_cons_succ]
        exact ih room (size + q) m (by omega) h i (by simp at hi; omega)
/-- a right tree, as far as this goes -/
def RightT {H : Type} (d : DataW H) : Prop := ∃ (n : Nat) (room m : Int), szD n d room = some m ∧ room ≤ 30
theorem RightT.row {H : Type} {d : DataW H} (h : RightT d) : ∃ (n : Nat) (room m : Int), szF (szD n) (kidsOf d) room 1 = some m ∧ room ≤ 30 ∧ m ≤ room ∧ nameB (tagOf d) = true := by
  obtain ⟨n, room, m, e, hr⟩ := h
  have hm := szD_range _ _ _ _ e
  cases n with
  | zero => simp [szD] at e
  | succ n =>
    unfold szD at e
    split at e
    · cases e
    · rename_i hc
      refine ⟨n, room, m, e, hr, hm.2, ?_⟩
      cases hn : nameB (tagOf d)
      · exact absurd (Or.inr hn) hc
      · rfl
theorem RightT.few {H : Type} {d : DataW H} (h : RightT d) : (kidsOf d).length ≤ 30 := by
  obtain ⟨n, room, m, e, hr, hm, _⟩ := h.row
  have := szF_len (szD_range n) _ _ _ _ e
  omega
theorem RightT.nth {H : Type} {d : DataW H} (h : RightT d) {i : Nat} (hi : i < (kidsOf d).length) : RightT (nth (kidsOf d) i) := by
  obtain ⟨n, room, m, e, hr, hm, _⟩ := h.row
  obtain ⟨r, q, e2, h2⟩ := szF_mem (szD_range n) _ _ _ _ (by omega) e i hi
  have e3 : Go.Proofs.Ytndffcogddefiaa.nth (kidsOf d) i = (kidsOf d)[i] := by simp [Go.Proofs.Ytndffcogddefiaa.nth, List.getD, List.getElem?_eq_getElem hi]
  rw [e3]
  exact ⟨n, r, q, e2, by omega⟩
theorem RightT.kid {H : Type} {d : DataW H} (h : RightT d) {p : Int} (hp : inB d p = true) : RightT (kidP d p) := by
  simp only [inB, Bool.and_eq_true, decide_eq_true_eq] at hp
  exact h.nth (by omega)
theorem RightT.ends {H : Type} : ∀ (path : List Int) {d : DataW H}, RightT d → okP d path = true → RightT (endP d path) := by
  intro path
  induction path with
  | nil => intro d h _; exact h
  | cons p ps ih =>
    intro d h ho
    simp only [okP, Bool.and_eq_true] at ho
    exact ih (h.kid ho.1) ho.2
theorem rightT_of {H : Type} {n : Nat} {d : DataW H} (h : (match szD n d 30 with | none => false | some _ => true) = true) : RightT d := by
  cases e : szD n d 30 with
  | none => rw [e] at h; cases h
  | some m => exact ⟨n, 30, m, e, Int.le_refl _⟩
end Go.Proofs.Ytndffcogddefiaa
