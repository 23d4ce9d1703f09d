/- How many marks what FindAll tells takes: few. -/
import Derived.Test.YtldecaccionigaaFindPlain
namespace Go.Proofs.Ytldecaccionigaa
theorem cntL_filter {α : Type} (cnt : α → Nat) (f : α → Bool) (xs : List α) : cntL cnt (xs.filter f) ≤ cntL cnt xs := by
  induction xs with
  | nil => exact Nat.le_refl _
  | cons x xs ih =>
    rw [List.filter_cons]
    split
    · rw [cntL_cons, cntL_cons]; omega
    · rw [cntL_cons]; omega
theorem findD_few (n : Nat) (d : TD) (l : List StepD) : cntL cntInts (findD (okB (szD n d 30)) n d l) ≤ 30000 := by
  unfold findD
  split
  · rename_i hc
    simp only [Bool.and_eq_true] at hc
    have h1 := pathsOfD_few n d
    rw [pathsOfD_yes hc.1] at h1
    exact Nat.le_trans (cntL_filter _ _ _) h1
  · rw [cntL_nil]; omega
end Go.Proofs.Ytldecaccionigaa
