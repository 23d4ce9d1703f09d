/- What an op's parts must be: plain. -/
import Derived.Test.YtdnembnlomnceaaGreatNameWalks
import Derived.Test.YtdnembnlomnceaaGreatTakeMore
import Derived.WalkKit
import Derived.Below
import Derived.Test.YtdnembnlomnceaaGreatRecs
namespace Go.Proofs.YtdnembnlomnceaaGreat
open Go.RowKit
structure OpD where
 vKind : Int
 vName : ByteArray
 vOther : ByteArray
 vWord : ByteArray
 vType : ByteArray
 vCapture : Bool
 vOnce : Bool
 vStop : Int
 vLname : ByteArray
def OpD.fits (x : OpD) : Prop := x.vName.size ≤ maxLen ∧ x.vOther.size ≤ maxLen ∧ x.vWord.size ≤ maxLen ∧ x.vType.size ≤ maxLen ∧ x.vLname.size ≤ maxLen
def OpD.cells (x : OpD) : List Value := [.int .i64 x.vKind, .string x.vName, .string x.vOther, .string x.vWord, .string x.vType, .bool x.vCapture, .bool x.vOnce, .int .i64 x.vStop, .string x.vLname]
end Go.Proofs.YtdnembnlomnceaaGreat
namespace Go.Proofs.YtdnembnlomnceaaGreat
open Go.RowKit
abbrev cHp (x : HeapD) (aN : Option Addr) (kN : Nat) (aO : Option Addr) (kO : Nat) (aG : Option Addr) (kG : Nat) : List Value := [.int .i64 x.vNext, .int .i64 x.vDoc, .slice aN x.vNodes.length kN, .slice aO x.vObjs.length kO, .slice aG x.vGlobals.length kG]
abbrev cOp (k : Int) (o : OpD) : List Value := [.int .i64 k, .string o.vName, .string o.vOther, .string o.vWord, .string o.vType, .bool o.vCapture, .bool o.vOnce, .int .i64 o.vStop, .string o.vLname]
abbrev cZp : List Value := [.int .i64 0, .int .i64 0, .slice none 0 0, .slice none 0 0, .slice none 0 0]
end Go.Proofs.YtdnembnlomnceaaGreat
namespace Go.Proofs.YtdnembnlomnceaaGreat
open Go.RowKit
def nmO (s : ByteArray) : Bool := nameB s.data.toList
def lisP (ty ln : ByteArray) (st : Int) : Bool := nmO ty && (nmO ln && (decide (0 ≤ st) && decide (st ≤ 2)))
def lisO (x : OpD) : Bool := lisP x.vType x.vLname x.vStop
end Go.Proofs.YtdnembnlomnceaaGreat
