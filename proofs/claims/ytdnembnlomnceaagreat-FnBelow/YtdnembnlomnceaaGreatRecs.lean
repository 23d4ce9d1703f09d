/- The records of this package as data, and that they lie in memory. -/
import Derived.Test.YtdnembnlomnceaaGreatSeq
import Derived.Test.YtdnembnlomnceaaGreatRows
namespace Go.Proofs.YtdnembnlomnceaaGreat
open Go.RowKit Go.ChangeShapes
structure ListenerD where
 vType : ByteArray
 vCapture : Bool
 vOnce : Bool
 vStop : Int
 vName : ByteArray
def ListenerAt (_ : World) (_ : Nat) (cs : List Value) (x : ListenerD) : Prop :=
 cs = [.string x.vType, .bool x.vCapture, .bool x.vOnce, .int .i64 x.vStop, .string x.vName] ∧ x.vType.size ≤ maxLen ∧ InI x.vStop ∧ x.vName.size ≤ maxLen ∧ True
theorem ListenerAt_stays : Stays ListenerAt := fun _ _ _ _ _ _ _ h => h
def ListenerD.small (x : ListenerD) : Prop := x.vType.size ≤ 1048576 ∧ x.vName.size ≤ 1048576 ∧ True
structure NodeD where
 vId : Int
 vTag : ByteArray
 vParent : Int
 vKids : List Int
 vWrapper : Int
 vListeners : List ListenerD
def NodeAt (w : World) (lo : Nat) (cs : List Value) (x : NodeD) : Prop :=
 ∃ k3 k5 : Value, cs = [.int .i64 x.vId, .string x.vTag, .int .i64 x.vParent, k3, .int .i64 x.vWrapper, k5] ∧ SeqAt 1 IntAt w lo k3 x.vKids ∧ SeqAt 5 ListenerAt w lo k5 x.vListeners ∧ InI x.vId ∧ x.vTag.size ≤ maxLen ∧ InI x.vParent ∧ InI x.vWrapper ∧ True
theorem NodeAt_stays : Stays NodeAt := by
 intro w w' lo lo' cs x q h
 obtain ⟨k3, k5, e, h3, h5, r⟩ := h
 exact ⟨k3, k5, e, h3.keep intAt_stays q, h5.keep ListenerAt_stays q, r⟩
def NodeD.small (x : NodeD) : Prop := x.vTag.size ≤ 1048576 ∧ x.vKids.length ≤ 1048576 ∧ AllS ListenerD.small x.vListeners ∧ True
structure FieldD where
 vName : ByteArray
 vObj : Int
def FieldAt (_ : World) (_ : Nat) (cs : List Value) (x : FieldD) : Prop :=
 cs = [.string x.vName, .int .i64 x.vObj] ∧ x.vName.size ≤ maxLen ∧ InI x.vObj ∧ True
theorem FieldAt_stays : Stays FieldAt := fun _ _ _ _ _ _ _ h => h
def FieldD.small (x : FieldD) : Prop := x.vName.size ≤ 1048576 ∧ True
structure ObjD where
 vId : Int
 vNode : Int
 vFields : List FieldD
def ObjAt (w : World) (lo : Nat) (cs : List Value) (x : ObjD) : Prop :=
 ∃ k2 : Value, cs = [.int .i64 x.vId, .int .i64 x.vNode, k2] ∧ SeqAt 2 FieldAt w lo k2 x.vFields ∧ InI x.vId ∧ InI x.vNode ∧ True
theorem ObjAt_stays : Stays ObjAt := by
 intro w w' lo lo' cs x q h
 obtain ⟨k2, e, h2, r⟩ := h
 exact ⟨k2, e, h2.keep FieldAt_stays q, r⟩
def ObjD.small (x : ObjD) : Prop := AllS FieldD.small x.vFields ∧ True
structure HeapD where
 vNext : Int
 vDoc : Int
 vNodes : List NodeD
 vObjs : List ObjD
 vGlobals : List FieldD
def HeapAt (w : World) (lo : Nat) (cs : List Value) (x : HeapD) : Prop :=
 ∃ k2 k3 k4 : Value, cs = [.int .i64 x.vNext, .int .i64 x.vDoc, k2, k3, k4] ∧ SeqAt 6 NodeAt w lo k2 x.vNodes ∧ SeqAt 3 ObjAt w lo k3 x.vObjs ∧ SeqAt 2 FieldAt w lo k4 x.vGlobals ∧ InI x.vNext ∧ InI x.vDoc ∧ True
theorem HeapAt_stays : Stays HeapAt := by
 intro w w' lo lo' cs x q h
 obtain ⟨k2, k3, k4, e, h2, h3, h4, r⟩ := h
 exact ⟨k2, k3, k4, e, h2.keep NodeAt_stays q, h3.keep ObjAt_stays q, h4.keep FieldAt_stays q, r⟩
def HeapD.small (x : HeapD) : Prop := AllS NodeD.small x.vNodes ∧ AllS ObjD.small x.vObjs ∧ AllS FieldD.small x.vGlobals ∧ True
abbrev cNd (x : NodeD) (a : Option Addr) (k : Nat) (b : Option Addr) (l : Nat) : List Value := [.int .i64 x.vId, .string x.vTag, .int .i64 x.vParent, .slice a x.vKids.length k, .int .i64 x.vWrapper, .slice b x.vListeners.length l]
abbrev cZn : List Value := [.int .i64 0, .string ⟨#[]⟩, .int .i64 0, .slice none 0 0, .int .i64 0, .slice none 0 0]
abbrev cOb (x : ObjD) (a : Option Addr) (k : Nat) : List Value := [.int .i64 x.vId, .int .i64 x.vNode, .slice a x.vFields.length k]
end Go.Proofs.YtdnembnlomnceaaGreat
