/- The box that a call laid is as it was while a row grows. -/
import Derived.Test.YtlcddndpfhdakaaDoorSeq
import Derived.Test.YtlcddndpfhdakaaDoorAppBytes
namespace Go.Proofs.YtlcddndpfhdakaaDoor
open Go.RowKit
/-- the box that the call laid is as it was -/
theorem box_goes {w wr : World} {v vj : Value} {cs : List Value} {T : TypeId} {base : Nat} {l : List UInt8} (ho : OwnB w base v l) (h : Goes (w.alloc (.cells cs.toArray T)) v wr vj) : Box wr w.heap.size cs T := by
  refine (h.1.block w.heap.size (by simp) ?_).trans (MapKept.heap_alloc w _).1
  intro hh
  have := ho.lt hh.symm
  omega
end Go.Proofs.YtlcddndpfhdakaaDoor
