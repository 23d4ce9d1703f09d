/- How many marks what At tells takes: few. -/
import Derived.Test.YtldecaccionigaaAtTop
import Derived.Test.YtldecaccionigaaCntNine
namespace Go.Proofs.Ytldecaccionigaa
theorem atD_cnt (ok : Bool) (d : TD) (path : List Int) (h : ok = true → RightT d) (L : Nat) : cntL (cntTree L) (kidsOf (atD ok d path).1) ≤ 30 := by
  unfold atD
  split
  · rename_i hc
    simp only [Bool.and_eq_true] at hc
    exact (RightT.ends path (h hc.1) hc.2).cnt L
  · show cntL (cntTree L) [] ≤ 30
    rw [cntL_nil]; omega
end Go.Proofs.Ytldecaccionigaa
