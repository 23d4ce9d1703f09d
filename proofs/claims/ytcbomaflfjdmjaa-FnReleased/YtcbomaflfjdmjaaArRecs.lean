/- The records of this package as data, and that they lie in memory. -/
import Derived.Test.YtcbomaflfjdmjaaSeq
import Derived.Test.YtcbomaflfjdmjaaRows
namespace Go.Proofs.Ytcbomaflfjdmjaa
open Go.RowKit Go.ChangeShapes
theorem inI_of_wf {n : Int} (h : (Lit.int .i64 n).wf = true) : InI n := by
  simp [Lit.wf, IntKind.min, IntKind.max, IntKind.signed, IntKind.bits] at h
  unfold InI; omega
theorem intAt_of_trod {H : Type} {enc : TypeId × Value → H} {w : World} {spare : Nat → Bool} {held : Bool} (n : Nat) (cs : List Value) (y : DataW H × List MemPlace) (h : DataW.trod enc Try.prog w 0 spare held n 2 cs = some y) : ∃ x, IntAt w 0 cs x := by
  obtain ⟨x, e, _, hw⟩ := DataW.trod_int Try.underlying2 h
  exact ⟨x, e, inI_of_wf hw⟩
structure SlotD where
  vGen : Int
  vUsed : Bool
  vData : ByteArray
def SlotAt (_ : World) (_ : Nat) (cs : List Value) (x : SlotD) : Prop :=
  cs = [.int .i64 x.vGen, .bool x.vUsed, .string x.vData] ∧ InI x.vGen ∧ x.vData.size ≤ maxLen ∧ True
theorem SlotAt_stays : Stays SlotAt := fun _ _ _ _ _ _ _ h => h
def SlotD.small (x : SlotD) : Prop := x.vData.size ≤ 1048576 ∧ True
structure ArenaD where
  vSlots : List SlotD
  vFree : List Int
def ArenaAt (w : World) (lo : Nat) (cs : List Value) (x : ArenaD) : Prop :=
  ∃ k0 k1 : Value, cs = [k0, k1] ∧ SeqAt 3 SlotAt w lo k0 x.vSlots ∧ SeqAt 1 IntAt w lo k1 x.vFree ∧ True
theorem ArenaAt_stays : Stays ArenaAt := by
  intro w w' lo lo' cs x q h
  obtain ⟨k0, k1, e, h0, h1, r⟩ := h
  exact ⟨k0, k1, e, h0.keep SlotAt_stays q, h1.keep intAt_stays q, r⟩
def ArenaD.small (x : ArenaD) : Prop := AllS SlotD.small x.vSlots ∧ x.vFree.length ≤ 1048576 ∧ True
structure HandleD where
  vAt : Int
  vGen : Int
def HandleAt (_ : World) (_ : Nat) (cs : List Value) (x : HandleD) : Prop :=
  cs = [.int .i64 x.vAt, .int .i64 x.vGen] ∧ InI x.vAt ∧ InI x.vGen ∧ True
theorem HandleAt_stays : Stays HandleAt := fun _ _ _ _ _ _ _ h => h
def HandleD.small (_ : HandleD) : Prop := True
end Go.Proofs.Ytcbomaflfjdmjaa
