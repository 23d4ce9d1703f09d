/- A selector's steps in memory. -/
import Derived.Test.YtdlkafpemongmaaSeq
namespace Go.Proofs.Ytdlkafpemongmaa
open Go.RowKit
structure StepD where
  vTag : ByteArray
  vDeep : Bool
def StepAt (_ : World) (_ : Nat) (cs : List Value) (x : StepD) : Prop :=
  cs = [.string x.vTag, .bool x.vDeep] ∧ x.vTag.size ≤ maxLen ∧ True
theorem StepAt_stays : Stays StepAt := fun _ _ _ _ _ _ _ h => h
end Go.Proofs.Ytdlkafpemongmaa
