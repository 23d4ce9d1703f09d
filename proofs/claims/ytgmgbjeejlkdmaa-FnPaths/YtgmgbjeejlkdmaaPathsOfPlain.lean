/- All paths of a tree: plain facts. -/
import Derived.Test.YtgmgbjeejlkdmaaCntNine
namespace Go.Proofs.Ytgmgbjeejlkdmaa
/-- the paths to a tree that stands at a path, and to all below it -/
def pathsD : Nat → TD → List Int → List (List Int)
  | 0, _, _ => []
  | n + 1, d, p => p :: (List.range (kidsOf d).length).flatMap fun i => pathsD n (nth (kidsOf d) i) (p ++ [(i : Int)])
/-- those through the first j kids -/
def pathsJ (n : Nat) (d : TD) (p : List Int) (j : Nat) : List (List Int) := (List.range j).flatMap fun i => pathsD n (nth (kidsOf d) i) (p ++ [(i : Int)])
theorem pathsD_succ (n : Nat) (d : TD) (p : List Int) : pathsD (n + 1) d p = p :: pathsJ n d p (kidsOf d).length := rfl
theorem pathsJ_zero (n : Nat) (d : TD) (p : List Int) : pathsJ n d p 0 = [] := rfl
theorem pathsJ_succ (n : Nat) (d : TD) (p : List Int) (j : Nat) : pathsJ n d p (j + 1) = pathsJ n d p j ++ pathsD n (nth (kidsOf d) j) (p ++ [(j : Int)]) := by
  unfold pathsJ
  rw [List.range_succ, List.flatMap_append]; simp
theorem pathsJ_le (n : Nat) (d : TD) (p : List Int) {i j : Nat} (h : i ≤ j) : (pathsJ n d p i).length ≤ (pathsJ n d p j).length := by
  induction h with
  | refl => exact Nat.le_refl _
  | step _ ih => rw [pathsJ_succ, List.length_append]; omega
theorem pathsJ_len {n : Nat} (ih : ∀ (d : TD) (p : List Int), (pathsD n d p).length = cntTree n d) (d : TD) (p : List Int) : ∀ j, j ≤ (kidsOf d).length → (pathsJ n d p j).length = pos (cntTree n) (kidsOf d) j := by
  intro j
  induction j with
  | zero => intro _; rw [pathsJ_zero, pos_zero]; rfl
  | succ j ihj =>
    intro hj
    rw [pathsJ_succ, List.length_append, ihj (by omega), ih, pos_succ (by omega)]
    have e : nth (kidsOf d) j = (kidsOf d)[j] := by simp [nth, List.getD, List.getElem?_eq_getElem (show j < (kidsOf d).length by omega)]
    rw [e]
theorem pathsD_len : ∀ (n : Nat) (d : TD) (p : List Int), (pathsD n d p).length = cntTree n d := by
  intro n
  induction n with
  | zero => intro d p; rfl
  | succ n ih =>
    intro d p
    rw [pathsD_succ, List.length_cons, pathsJ_len ih d p _ (Nat.le_refl _)]
    simp only [cntTree, cntL]
    omega
theorem RightT.cntT {d : TD} (h : RightT d) (L : Nat) : cntTree L d ≤ 30 := by
  obtain ⟨n, room, m, e, hr⟩ := h
  have h1 := szD_cnt n d room m e L
  have h2 := szD_range _ _ _ _ e
  omega
/-- what PathsOf tells -/
def pathsOfD (ok : Bool) (n : Nat) (d : TD) : List (List Int) := if ok = true then pathsD n d [] else []
theorem pathsOfD_no {ok : Bool} {n : Nat} {d : TD} (h : ok = false) : pathsOfD ok n d = [] := by simp [pathsOfD, h]
theorem pathsOfD_yes {ok : Bool} {n : Nat} {d : TD} (h : ok = true) : pathsOfD ok n d = pathsD n d [] := by simp [pathsOfD, h]
/-- no path is longer than there are levels -/
theorem pathsD_deep : ∀ (n : Nat) (d : TD) (p q : List Int), q ∈ pathsD n d p → q.length ≤ p.length + n := by
  intro n
  induction n with
  | zero => intro d p q h; cases h
  | succ n ih =>
    intro d p q h
    rw [pathsD_succ] at h
    rcases List.mem_cons.1 h with e | e
    · rw [e]; omega
    · obtain ⟨i, _, hi⟩ := List.mem_flatMap.1 e
      have := ih _ _ _ hi
      simp at this
      omega
end Go.Proofs.Ytgmgbjeejlkdmaa
