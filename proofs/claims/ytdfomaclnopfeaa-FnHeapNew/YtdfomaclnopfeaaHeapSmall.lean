/- The small functions of the specification's second chapter, walked. -/
import Derived.Test.YtdfomaclnopfeaaHeap
import Derived.Test.YtdfomaclnopfeaaNameWalks
import Derived.Test.YtdfomaclnopfeaaTakeLit
import Derived.WalkKit
namespace Go.Proofs.Ytdfomaclnopfeaa
open Go.RowKit
theorem lie_at {w : World} {b o : Nat} {cs : List Value} (h : Lie w b o cs) (m : Nat) {v : Value} (e : cs[m]? = some v) : w.cell? ⟨b, o + m, none⟩ = some v := by
  have hm : m < cs.length := by
    rcases Nat.lt_or_ge m cs.length with h | h
    · exact h
    · rw [List.getElem?_eq_none h] at e; cases e
  rw [h m hm]; exact e
end Go.Proofs.Ytdfomaclnopfeaa
