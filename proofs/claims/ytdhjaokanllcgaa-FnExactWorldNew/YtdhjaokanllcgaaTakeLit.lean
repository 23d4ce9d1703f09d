/- A region that draws its order, its operations taken by hand: the frame laid out anew behind each. -/
import Derived.WalkKit
import Derived.Deep.RegionHeld3
import Derived.Laws.Cover1
import Derived.Test.YtdhjaokanllcgaaSeq
namespace Go.Proofs.Ytdhjaokanllcgaa
open Go.RowKit
theorem take_lit {P : Program} {md : Region.Mode} {ops : Array Oper} {Q : Exit → Act → World → Prop} {S : World → Prop} {i d : Nat} {oi : Oper} {v : Value} {fuel : Nat} {listed : Array Bool} {l : List Value} {ds : List Deferred} {w : World} (hi : ops[i]? = some oi) (hd : oi.dst = some d)
    (hs : Region.noSelect ops = true) (hf : Region.free md ops listed i = true) (hr : (Region.ready md ops listed).contains i = true)
    (hQ : ∀ c a w, Q (.panic c) (a.put (some d) v) w → Q (.panic c) a w) (hy : YieldsIf P ops S oi v { tmps := l.toArray, defers := ds }) (hS : S w)
    (h : wpAnyH P md ops Q S fuel (listed.setIfInBounds i true) { tmps := (l.set d v).toArray, defers := ds } w) : wpAnyH P md ops Q S (fuel + 1) listed { tmps := l.toArray, defers := ds } w :=
  wpAnyH_take hi hs hf hr (by rw [hd]; exact hQ) hy hS (by rw [hd]; simpa [Act.put] using h)
/-- a cell behind a call that keeps what was there -/
theorem cell_on {W w1 : World} {a : Addr} {v : Value} (hb : Below W.heap.size W w1) (h : W.cell? a = some v) : w1.cell? a = some v := by
  rw [hb.cell (addr_of_cell h).2]; exact h
end Go.Proofs.Ytdhjaokanllcgaa
