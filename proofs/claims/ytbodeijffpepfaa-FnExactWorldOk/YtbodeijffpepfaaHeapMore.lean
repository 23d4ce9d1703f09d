/- What a right heap is, as the program asks it: plain facts, no memory. -/
import Derived.Test.YtbodeijffpepfaaHeap
namespace Go.Proofs.Ytbodeijffpepfaa
def rootB (h : HeapD) (id : Int) : Bool :=
  match nodeAt h id with
  | none => false
  | some n => decide (n.vParent = 0)
/-- the way up from a node ends, over no more than so many -/
def endF (h : HeapD) : Nat → NodeD → Bool
  | 0, _ => false
  | k + 1, x => if x.vParent = 0 then true else match nodeAt h x.vParent with
    | none => false
    | some p => endF h k p
theorem endF_root {h : HeapD} {k : Nat} {x : NodeD} (hk : 0 < k) (e : x.vParent = 0) : endF h k x = true := by
  obtain ⟨n, rfl⟩ : ∃ n, k = n + 1 := ⟨k - 1, by omega⟩
  simp [endF, e]
theorem endF_none {h : HeapD} {k : Nat} {x : NodeD} (e : ¬ x.vParent = 0) (hn : nodeAt h x.vParent = none) : endF h k x = false := by
  cases k with
  | zero => rfl
  | succ n => simp [endF, e, hn]
theorem endF_up {h : HeapD} {k : Nat} {x p : NodeD} (e : ¬ x.vParent = 0) (hn : nodeAt h x.vParent = some p) : endF h (k + 1) x = endF h k p := by simp [endF, e, hn]
def leS (a b : ByteArray) : Bool := Op.bytesLess a.toList b.toList || a.toList == b.toList
def fldsI (h : HeapD) : ByteArray → List FieldD → Bool
  | _, [] => true
  | l, x :: xs => (objAt h x.vObj).isSome && nmB x.vName && !leS x.vName l && fldsI h x.vName xs
def fieldsI (h : HeapD) (xs : List FieldD) (most : Int) : Bool := decide ((xs.length : Int) ≤ most) && fldsI h ⟨#[]⟩ xs
def lastN (xs : List FieldD) : Nat → ByteArray
  | 0 => ⟨#[]⟩
  | j + 1 => (xs[j]?.map FieldD.vName).getD ⟨#[]⟩
theorem lastN_succ {xs : List FieldD} {j : Nat} (h : j < xs.length) : lastN xs (j + 1) = xs[j].vName := by simp [lastN, List.getElem?_eq_getElem h]
theorem fldsI_step {h : HeapD} {xs : List FieldD} {j : Nat} (hj : j < xs.length) : fldsI h (lastN xs j) (xs.drop j) = ((objAt h xs[j].vObj).isSome && nmB xs[j].vName && !leS xs[j].vName (lastN xs j) && fldsI h (lastN xs (j + 1)) (xs.drop (j + 1))) := by
  rw [drop_cons xs j hj, lastN_succ hj]; rfl
theorem fldsI_end {h : HeapD} {xs : List FieldD} {j : Nat} (hj : ¬ j < xs.length) : fldsI h (lastN xs j) (xs.drop j) = true := by
  rw [List.drop_of_length_le (by omega)]; rfl
def nodeI (h : HeapD) (x : NodeD) : Bool := nmB x.vTag && kidsB h x && parB h x && endF h h.vNodes.length x && wrapB h x && (decide (x.vListeners.length ≤ 4) && lissB x.vListeners)
def objI (h : HeapD) (x : ObjD) : Bool := oNodeB h x && fieldsI h x.vFields 5
def idxNB (h : HeapD) : Int → List NodeD → Bool
  | _, [] => true
  | l, x :: xs => decide (l < x.vId) && decide (x.vId < h.vNext) && idxNB h x.vId xs
def idxOB (h : HeapD) : Int → List ObjD → Bool
  | _, [] => true
  | l, x :: xs => (nodeAt h x.vId).isNone && decide (l < x.vId) && decide (x.vId < h.vNext) && idxOB h x.vId xs
def idxB (h : HeapD) : Bool := decide (1 ≤ h.vNext) && decide (h.vNext ≤ 1000000000) && decide (h.vNodes.length ≤ 16) && decide (h.vObjs.length ≤ 16) && idxNB h 0 h.vNodes && idxOB h 0 h.vObjs
def lastI {α : Type} (f : α → Int) (xs : List α) : Nat → Int
  | 0 => 0
  | j + 1 => (xs[j]?.map f).getD 0
theorem lastI_succ {α : Type} {f : α → Int} {xs : List α} {j : Nat} (h : j < xs.length) : lastI f xs (j + 1) = f xs[j] := by simp [lastI, List.getElem?_eq_getElem h]
theorem idxNB_step {h : HeapD} {xs : List NodeD} {j : Nat} (hj : j < xs.length) : idxNB h (lastI NodeD.vId xs j) (xs.drop j) = (decide (lastI NodeD.vId xs j < xs[j].vId) && decide (xs[j].vId < h.vNext) && idxNB h (lastI NodeD.vId xs (j + 1)) (xs.drop (j + 1))) := by
  rw [drop_cons xs j hj, lastI_succ hj]; rfl
theorem idxNB_end {h : HeapD} {xs : List NodeD} {j : Nat} (hj : ¬ j < xs.length) : idxNB h (lastI NodeD.vId xs j) (xs.drop j) = true := by
  rw [List.drop_of_length_le (by omega)]; rfl
theorem idxOB_step {h : HeapD} {xs : List ObjD} {j : Nat} (hj : j < xs.length) : idxOB h (lastI ObjD.vId xs j) (xs.drop j) = ((nodeAt h xs[j].vId).isNone && decide (lastI ObjD.vId xs j < xs[j].vId) && decide (xs[j].vId < h.vNext) && idxOB h (lastI ObjD.vId xs (j + 1)) (xs.drop (j + 1))) := by
  rw [drop_cons xs j hj, lastI_succ hj]; rfl
theorem idxOB_end {h : HeapD} {xs : List ObjD} {j : Nat} (hj : ¬ j < xs.length) : idxOB h (lastI ObjD.vId xs j) (xs.drop j) = true := by
  rw [List.drop_of_length_le (by omega)]; rfl
theorem getI_none {α : Type} {f : α → Int} {id : Int} : ∀ {xs : List α}, (∀ i, (hi : i < xs.length) → f xs[i] ≠ id) → getI f xs id = none := by
  intro xs
  induction xs with
  | nil => intro _; rfl
  | cons x xs ih =>
    intro h
    have h0 := h 0 (by simp)
    simp only [List.getElem_cons_zero] at h0
    unfold getI
    rw [if_neg h0]
    exact ih fun i hi => h (i + 1) (by simp only [List.length_cons]; omega)
/-- all ahead are no greater than the last one -/
def UpTo {α : Type} (f : α → Int) (xs : List α) (j : Nat) : Prop := ∀ i, (hi : i < xs.length) → i < j → f xs[i] ≤ lastI f xs j
theorem UpTo.zero {α : Type} {f : α → Int} {xs : List α} : UpTo f xs 0 := fun _ _ h => absurd h (by omega)
theorem UpTo.succ {α : Type} {f : α → Int} {xs : List α} {j : Nat} (h : UpTo f xs j) (hj : j < xs.length) (hl : lastI f xs j < f xs[j]) : UpTo f xs (j + 1) := by
  intro i hi hij
  rw [lastI_succ hj]
  by_cases e : i = j
  · subst e; exact Int.le_refl _
  · have := h i hi (by omega); omega
theorem UpTo.fresh {α : Type} {f : α → Int} {xs : List α} {j : Nat} (h : UpTo f xs j) (hj : j < xs.length) (hl : lastI f xs j < f xs[j]) : getI f (xs.take j) (f xs[j]) = none := by
  refine getI_none fun i hi => ?_
  simp only [List.length_take] at hi
  rw [List.getElem_take]
  have := h i (by omega) (by omega)
  omega
end Go.Proofs.Ytbodeijffpepfaa
