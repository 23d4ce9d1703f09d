/- The records of this package as owners of their memory, and their marks: plain facts. -/
import Derived.Test.YtdapgihghbmlfaaGreatDoorOwn
import Derived.Test.YtdapgihghbmlfaaGreatDoorInRecs
import Derived.Test.YtdapgihghbmlfaaGreatDoorMarks
namespace Go.Proofs.YtdapgihghbmlfaaGreatDoor
open Go.RowKit
def cntI (_ : Int) : Nat := 1
def mkI (_ : Int) (m : Int) : Int := m
def InstrOwn (_ : World) (cs : List Value) (x : InstrD) (fs : List Nat) : Prop :=
  cs = [.int .i64 x.vKind, .int .i64 x.vN, .string x.vName] ∧ InI x.vKind ∧ InI x.vN ∧ x.vName.size ≤ maxLen ∧ fs = []
theorem InstrOwn_stays : OwnStays InstrOwn := fun _ _ _ _ _ _ h => h
theorem InstrOwn_lt : OwnLt InstrOwn := by
  intro w cs x fs h b hb
  obtain ⟨_, _, _, _, rfl⟩ := h
  cases hb
theorem InstrOwn_at {lo : Nat} (w : World) (cs : List Value) (x : InstrD) (fs : List Nat) (h : InstrOwn w cs x fs) (_ : ∀ b ∈ fs, lo ≤ b) : InstrAt w lo cs x := by
  obtain ⟨e, r0, r1, r2, _⟩ := h
  exact ⟨e, r0, r1, r2, trivial⟩
def cntInstr (_ : InstrD) : Nat := 1 + 1 + 1
def mkInstr (_ : InstrD) (m : Int) : InstrD := { vKind := m, vN := m + 1, vName := markT (m + 1 + 1) }
end Go.Proofs.YtdapgihghbmlfaaGreatDoor
