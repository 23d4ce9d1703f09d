/- The records of this package as data, and that they lie in memory. -/
import Derived.Test.YtdapgihghbmlfaaGreatDoorSeq
import Derived.Test.YtdapgihghbmlfaaGreatDoorRows
namespace Go.Proofs.YtdapgihghbmlfaaGreatDoor
open Go.RowKit Go.ChangeShapes
theorem inI_of_wf {n : Int} (h : (Lit.int .i64 n).wf = true) : InI n := by
  simp [Lit.wf, IntKind.min, IntKind.max, IntKind.signed, IntKind.bits] at h
  unfold InI; omega
theorem intAt_of_trod {H : Type} {enc : TypeId × Value → H} {w : World} {spare : Nat → Bool} {held : Bool} (n : Nat) (cs : List Value) (y : DataW H × List MemPlace) (h : DataW.trod enc Tryz.prog w 0 spare held n 2 cs = some y) : ∃ x, IntAt w 0 cs x := by
  obtain ⟨x, e, _, hw⟩ := DataW.trod_int Tryz.underlying2 h
  exact ⟨x, e, inI_of_wf hw⟩
structure InstrD where
  vKind : Int
  vN : Int
  vName : ByteArray
def InstrAt (_ : World) (_ : Nat) (cs : List Value) (x : InstrD) : Prop :=
  cs = [.int .i64 x.vKind, .int .i64 x.vN, .string x.vName] ∧ InI x.vKind ∧ InI x.vN ∧ x.vName.size ≤ maxLen ∧ True
theorem InstrAt_stays : Stays InstrAt := fun _ _ _ _ _ _ _ h => h
def InstrD.small (x : InstrD) : Prop := x.vName.size ≤ 1048576 ∧ True
end Go.Proofs.YtdapgihghbmlfaaGreatDoor
