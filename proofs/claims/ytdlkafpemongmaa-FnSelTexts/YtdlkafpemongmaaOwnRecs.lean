/- The records of this package as owners of their memory, and their marks: plain facts. -/
import Derived.Test.YtdlkafpemongmaaOwn
import Derived.Test.YtdlkafpemongmaaStRecs
import Derived.Test.YtdlkafpemongmaaMarks
namespace Go.Proofs.Ytdlkafpemongmaa
open Go.RowKit
def cntI (_ : Int) : Nat := 1
def mkI (_ : Int) (m : Int) : Int := m
def StepOwn (_ : World) (cs : List Value) (x : StepD) (fs : List Nat) : Prop :=
  cs = [.string x.vTag, .bool x.vDeep] ∧ x.vTag.size ≤ maxLen ∧ fs = []
theorem StepOwn_stays : OwnStays StepOwn := fun _ _ _ _ _ _ h => h
theorem StepOwn_lt : OwnLt StepOwn := by
  intro w cs x fs h b hb
  obtain ⟨_, _, rfl⟩ := h
  cases hb
theorem StepOwn_at {lo : Nat} (w : World) (cs : List Value) (x : StepD) (fs : List Nat) (h : StepOwn w cs x fs) (_ : ∀ b ∈ fs, lo ≤ b) : StepAt w lo cs x := by
  obtain ⟨e, r0, _⟩ := h
  exact ⟨e, r0, trivial⟩
def cntStep (_ : StepD) : Nat := 1 + 1
def mkStep (_ : StepD) (m : Int) : StepD := { vTag := markT (m), vDeep := (m + 1) % 3 == 0 }
end Go.Proofs.Ytdlkafpemongmaa
