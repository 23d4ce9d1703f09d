/- Right selectors: plain facts. -/
import Derived.Test.YtdlkafpemongmaaStRecs
import Derived.Test.YtdlkafpemongmaaNames
namespace Go.Proofs.Ytdlkafpemongmaa
open Go.RowKit
/-- a step with any tag, or with a right one -/
def stepB (x : StepD) : Bool := decide (x.vTag = ⟨#[]⟩) || nameB x.vTag.data.toList
def stepsB : List StepD → Bool
  | [] => true
  | x :: r => stepB x && stepsB r
def headB : List StepD → Bool
  | [] => true
  | x :: _ => x.vDeep
/-- a right selector -/
def selB (l : List StepD) : Bool := decide (1 ≤ l.length) && decide (l.length ≤ 5) && headB l && stepsB l
theorem stepsB_append (a b : List StepD) : stepsB (a ++ b) = (stepsB a && stepsB b) := by
  induction a with
  | nil => simp [stepsB]
  | cons c r ih => simp [stepsB, ih, Bool.and_assoc]
theorem stepsB_take (l : List StepD) (k : Nat) (h : k < l.length) : stepsB (l.take (k + 1)) = (stepsB (l.take k) && stepB l[k]) := by
  rw [List.take_succ_eq_append_getElem h, stepsB_append]; simp [stepsB]
theorem stepsB_take_false (l : List StepD) (k : Nat) (h : stepsB (l.take k) = false) : stepsB l = false := by
  have : l = l.take k ++ l.drop k := (List.take_append_drop k l).symm
  rw [this, stepsB_append, h]; rfl
theorem selB_steps {l : List StepD} (h : stepsB l = false) : selB l = false := by simp [selB, h]
theorem selB_short {l : List StepD} (h : l.length < 1) : selB l = false := by simp [selB]; omega
theorem selB_long {l : List StepD} (h : 5 < l.length) : selB l = false := by simp [selB]; omega
theorem headB_at {l : List StepD} (h : 0 < l.length) : headB l = l[0].vDeep := by
  cases l with
  | nil => simp at h
  | cons x r => rfl
theorem selB_head {l : List StepD} (h : headB l = false) : selB l = false := by simp [selB, h]
theorem selB_yes {l : List StepD} (h1 : 1 ≤ l.length) (h2 : l.length ≤ 5) (h3 : headB l = true) : selB l = stepsB l := by simp [selB, h1, h2, h3]
theorem stepB_any {x : StepD} (h : x.vTag = ⟨#[]⟩) : stepB x = true := by simp [stepB, h]
theorem stepB_name {x : StepD} (h : ¬ x.vTag = ⟨#[]⟩) : stepB x = nameB x.vTag.data.toList := by simp [stepB, h]
end Go.Proofs.Ytdlkafpemongmaa
