/- The records of this package as data, and that they lie in memory. -/
import Derived.Test.YtldecaccionigaaSeq
import Derived.Test.YtldecaccionigaaRows
namespace Go.Proofs.Ytldecaccionigaa
open Go.RowKit Go.ChangeShapes
theorem inI_of_wf {n : Int} (h : (Lit.int .i64 n).wf = true) : InI n := by
  simp [Lit.wf, IntKind.min, IntKind.max, IntKind.signed, IntKind.bits] at h
  unfold InI; omega
theorem intAt_of_trod {H : Type} {enc : TypeId × Value → H} {w : World} {spare : Nat → Bool} {held : Bool} (n : Nat) (cs : List Value) (y : DataW H × List MemPlace) (h : DataW.trod enc Try.prog w 0 spare held n 2 cs = some y) : ∃ x, IntAt w 0 cs x := by
  obtain ⟨x, e, _, hw⟩ := DataW.trod_int Try.underlying2 h
  exact ⟨x, e, inI_of_wf hw⟩
structure StepD where
  vTag : ByteArray
  vDeep : Bool
def StepAt (_ : World) (_ : Nat) (cs : List Value) (x : StepD) : Prop :=
  cs = [.string x.vTag, .bool x.vDeep] ∧ x.vTag.size ≤ maxLen ∧ True
theorem StepAt_stays : Stays StepAt := fun _ _ _ _ _ _ _ h => h
def StepD.small (x : StepD) : Prop := x.vTag.size ≤ 1048576 ∧ True
set_option maxRecDepth 100000 in
theorem StepAt_of_trod {H : Type} {enc : TypeId × Value → H} {w : World} {spare : Nat → Bool} {held : Bool} (n : Nat) (cs : List Value) (y : DataW H × List MemPlace) (h : DataW.trod enc Try.prog w 0 spare held n 59 cs = some y) : ∃ x, StepAt w 0 cs x := by
  obtain ⟨xs, m, rfl, rfl, hl, hlen, hf⟩ := DataW.trod_struct Try.underlying59 h
  have hl' : cs.length = 2 := hl.trans (by kernel_rfl)
  have hlen' : xs.length = 2 := hlen
  match cs, hl', xs, hlen' with
  | [c0, c1], _, [y0, y1], _ =>
    have g0 : DataW.trod enc Try.prog w 0 spare held m 9 [c0] = some y0 := hf 0 _ rfl
    obtain ⟨x0, e0, _, w0⟩ := DataW.trod_string Try.underlying9 g0
    injection e0 with e0 _
    subst e0
    have g1 : DataW.trod enc Try.prog w 0 spare held m 4 [c1] = some y1 := hf 1 _ rfl
    obtain ⟨x1, e1, _⟩ := DataW.trod_bool Try.underlying4 g1
    injection e1 with e1 _
    subst e1
    exact ⟨⟨x0, x1⟩, rfl, w0, trivial⟩
end Go.Proofs.Ytldecaccionigaa
