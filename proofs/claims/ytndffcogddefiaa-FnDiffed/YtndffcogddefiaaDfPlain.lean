/- The edits from one tree to another one: plain. -/
import Derived.Test.YtndffcogddefiaaEdUnd
namespace Go.Proofs.Ytndffcogddefiaa
open Go.RowKit
def insE (p : List Int) (x : TD) : EditD := ⟨1, p, ⟨#[]⟩, x⟩
def delE (p : List Int) : EditD := ⟨2, p, ⟨#[]⟩, zeroT⟩
def renE (p : List Int) (s : ByteArray) : EditD := ⟨3, p, s, zeroT⟩
/-- what comes in below a pair, of the first j kids, by what a pair of kids tells -/
def growJ (f : TD → TD → List Int → List EditD) (a b : TD) (p : List Int) (j : Nat) : List EditD :=
  (List.range j).flatMap fun i => if i < (kidsOf a).length then f (nth (kidsOf a) i) (nth (kidsOf b) i) (p ++ [(i : Int)]) else [insE (p ++ [(i : Int)]) (nth (kidsOf b) i)]
def growD : Nat → TD → TD → List Int → List EditD
  | 0, _, _, _ => []
  | n + 1, a, b, p => growJ (growD n) a b p (kidsOf b).length
/-- the kids that go, from the last one on -/
def delJ (p : List Int) (la j : Nat) : List EditD := (List.range j).map fun t => delE (p ++ [((la - 1 - t : Nat) : Int)])
def cutJ (f : TD → TD → List Int → List EditD) (a b : TD) (p : List Int) (j : Nat) : List EditD :=
  (List.range j).flatMap fun i => f (nth (kidsOf a) i) (nth (kidsOf b) i) (p ++ [(i : Int)])
def renJ (a b : TD) (p : List Int) : List EditD := if strT a = strT b then [] else [renE p (strT b)]
def cutsD : Nat → TD → TD → List Int → List EditD
  | 0, _, _, _ => []
  | n + 1, a, b, p => renJ a b p ++ delJ p (kidsOf a).length ((kidsOf a).length - (kidsOf b).length) ++ cutJ (cutsD n) a b p (min (kidsOf a).length (kidsOf b).length)
def diffD (n : Nat) (a b : TD) : Option (List EditD) := if treeB a = true ∧ treeB b = true then some (cutsD n a b [] ++ growD n a b []) else none
theorem growJ_zero (f : TD → TD → List Int → List EditD) (a b : TD) (p : List Int) : growJ f a b p 0 = [] := rfl
theorem growJ_succ (f : TD → TD → List Int → List EditD) (a b : TD) (p : List Int) (j : Nat) : growJ f a b p (j + 1) = growJ f a b p j ++ (if j < (kidsOf a).length then f (nth (kidsOf a) j) (nth (kidsOf b) j) (p ++ [(j : Int)]) else [insE (p ++ [(j : Int)]) (nth (kidsOf b) j)]) := by
  unfold growJ; rw [List.range_succ, List.flatMap_append]; simp
theorem cutJ_zero (f : TD → TD → List Int → List EditD) (a b : TD) (p : List Int) : cutJ f a b p 0 = [] := rfl
theorem cutJ_succ (f : TD → TD → List Int → List EditD) (a b : TD) (p : List Int) (j : Nat) : cutJ f a b p (j + 1) = cutJ f a b p j ++ f (nth (kidsOf a) j) (nth (kidsOf b) j) (p ++ [(j : Int)]) := by
  unfold cutJ; rw [List.range_succ, List.flatMap_append]; simp
theorem delJ_zero (p : List Int) (la : Nat) : delJ p la 0 = [] := rfl
theorem delJ_succ (p : List Int) (la j : Nat) : delJ p la (j + 1) = delJ p la j ++ [delE (p ++ [((la - 1 - j : Nat) : Int)])] := by
  unfold delJ; rw [List.range_succ, List.map_append]; rfl
theorem delJ_len (p : List Int) (la j : Nat) : (delJ p la j).length = j := by unfold delJ; simp
theorem nth_get {xs : List TD} {i : Nat} (h : i < xs.length) : nth xs i = xs[i] := by simp [nth, List.getD, List.getElem?_eq_getElem h]
theorem cntTree_pos (n : Nat) (b : TD) : 1 ≤ cntTree (n + 1) b := by show 1 ≤ 1 + _; omega
/-- no more edits come in than there are nodes -/
theorem growJ_len {n : Nat} (ih : ∀ (a b : TD) (p : List Int), (growD n a b p).length ≤ cntTree (n + 1) b) (a b : TD) (p : List Int) : ∀ j, j ≤ (kidsOf b).length → (growJ (growD n) a b p j).length ≤ pos (cntTree (n + 1)) (kidsOf b) j := by
  intro j
  induction j with
  | zero => intro _; rw [growJ_zero, pos_zero]; exact Nat.le_refl _
  | succ j ihj =>
    intro hj
    rw [growJ_succ, List.length_append, pos_succ (by omega)]
    have h1 := ihj (by omega)
    have hk : nth (kidsOf b) j = (kidsOf b)[j] := nth_get (by omega)
    split
    · have h2 := ih (nth (kidsOf a) j) (nth (kidsOf b) j) (p ++ [(j : Int)])
      rw [hk] at h2
      rw [hk]
      omega
    · have h2 := cntTree_pos n (kidsOf b)[j]
      simp only [List.length_singleton]
      omega
theorem growD_len : ∀ (n : Nat) (a b : TD) (p : List Int), (growD n a b p).length ≤ cntTree (n + 1) b := by
  intro n
  induction n with
  | zero => intro a b p; exact Nat.zero_le _
  | succ n ih =>
    intro a b p
    have h := growJ_len ih a b p _ (Nat.le_refl _)
    show (growJ (growD n) a b p (kidsOf b).length).length ≤ 1 + cntL (cntTree (n + 1)) (kidsOf b)
    unfold cntL
    omega
end Go.Proofs.Ytndffcogddefiaa
