/- The walks of held..: what has its marks is told so. -/
import Derived.Test.YtlcddndpfhdakaaMarks
import Derived.Test.YtlcddndpfhdakaaTakeLit
import Derived.WalkKit
namespace Go.Proofs.Ytlcddndpfhdakaa
open Go.RowKit
theorem lie_at2 {w : World} {b o : Nat} {cs : List Value} (h : Lie w b o cs) (m : Nat) {v : Value} (e : cs[m]? = some v) : w.cell? ⟨b, o + m, none⟩ = some v := by
  have hm : m < cs.length := by
    rcases Nat.lt_or_ge m cs.length with h | h
    · exact h
    · rw [List.getElem?_eq_none h] at e; cases e
  rw [h m hm]; exact e
end Go.Proofs.Ytlcddndpfhdakaa
