/- A handle out of a law's argument. -/
import Derived.Test.YtcpbcpckmclciaaArRecs
namespace Go.Proofs.Ytcpbcpckmclciaa
open Go.RowKit Go.ChangeShapes
set_option maxRecDepth 100000 in
theorem HandleAt_of_trod {H : Type} {enc : TypeId × Value → H} {w : World} {spare : Nat → Bool} {held : Bool} (n : Nat) (cs : List Value) (y : DataW H × List MemPlace) (h : DataW.trod enc Try.prog w 0 spare held n 44 cs = some y) : ∃ x, HandleAt w 0 cs x := by
  obtain ⟨xs, m, rfl, rfl, hl, hlen, hf⟩ := DataW.trod_struct Try.underlying44 h
  have hl' : cs.length = 2 := hl.trans (by kernel_rfl)
  have hlen' : xs.length = 2 := hlen
  match cs, hl', xs, hlen' with
  | [c0, c1], _, [y0, y1], _ =>
    have g0 : DataW.trod enc Try.prog w 0 spare held m 2 [c0] = some y0 := hf 0 _ rfl
    obtain ⟨x0, e0, _, w0⟩ := DataW.trod_int Try.underlying2 g0
    injection e0 with e0 _
    subst e0
    have g1 : DataW.trod enc Try.prog w 0 spare held m 2 [c1] = some y1 := hf 1 _ rfl
    obtain ⟨x1, e1, _, w1⟩ := DataW.trod_int Try.underlying2 g1
    injection e1 with e1 _
    subst e1
    exact ⟨⟨x0, x1⟩, rfl, inI_of_wf w0, inI_of_wf w1, trivial⟩
end Go.Proofs.Ytcpbcpckmclciaa
