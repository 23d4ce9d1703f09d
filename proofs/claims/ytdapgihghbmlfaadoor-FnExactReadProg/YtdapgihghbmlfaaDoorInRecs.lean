/- The records of this package as data, and that they lie in memory. -/
import Derived.Test.YtdapgihghbmlfaaDoorSeq
import Derived.Test.YtdapgihghbmlfaaDoorRows
namespace Go.Proofs.YtdapgihghbmlfaaDoor
open Go.RowKit Go.ChangeShapes
theorem inI_of_wf {n : Int} (h : (Lit.int .i64 n).wf = true) : InI n := by
  simp [Lit.wf, IntKind.min, IntKind.max, IntKind.signed, IntKind.bits] at h
  unfold InI; omega
theorem intAt_of_trod {H : Type} {enc : TypeId × Value → H} {w : World} {spare : Nat → Bool} {held : Bool} (n : Nat) (cs : List Value) (y : DataW H × List MemPlace) (h : DataW.trod enc Tryd.prog w 0 spare held n 2 cs = some y) : ∃ x, IntAt w 0 cs x := by
  obtain ⟨x, e, _, hw⟩ := DataW.trod_int Tryd.underlying2 h
  exact ⟨x, e, inI_of_wf hw⟩
structure InstrD where
  vKind : Int
  vN : Int
  vName : ByteArray
def InstrAt (_ : World) (_ : Nat) (cs : List Value) (x : InstrD) : Prop :=
  cs = [.int .i64 x.vKind, .int .i64 x.vN, .string x.vName] ∧ InI x.vKind ∧ InI x.vN ∧ x.vName.size ≤ maxLen ∧ True
theorem InstrAt_stays : Stays InstrAt := fun _ _ _ _ _ _ _ h => h
def InstrD.small (x : InstrD) : Prop := x.vName.size ≤ 1048576 ∧ True
set_option maxRecDepth 100000 in
theorem InstrAt_of_trod {H : Type} {enc : TypeId × Value → H} {w : World} {spare : Nat → Bool} {held : Bool} (n : Nat) (cs : List Value) (y : DataW H × List MemPlace) (h : DataW.trod enc Tryd.prog w 0 spare held n 35 cs = some y) : ∃ x, InstrAt w 0 cs x := by
  obtain ⟨xs, m, rfl, rfl, hl, hlen, hf⟩ := DataW.trod_struct Tryd.underlying35 h
  have hl' : cs.length = 3 := hl.trans (by kernel_rfl)
  have hlen' : xs.length = 3 := hlen
  match cs, hl', xs, hlen' with
  | [c0, c1, c2], _, [y0, y1, y2], _ =>
    have g0 : DataW.trod enc Tryd.prog w 0 spare held m 2 [c0] = some y0 := hf 0 _ rfl
    obtain ⟨x0, e0, _, w0⟩ := DataW.trod_int Tryd.underlying2 g0
    injection e0 with e0 _
    subst e0
    have g1 : DataW.trod enc Tryd.prog w 0 spare held m 2 [c1] = some y1 := hf 1 _ rfl
    obtain ⟨x1, e1, _, w1⟩ := DataW.trod_int Tryd.underlying2 g1
    injection e1 with e1 _
    subst e1
    have g2 : DataW.trod enc Tryd.prog w 0 spare held m 9 [c2] = some y2 := hf 2 _ rfl
    obtain ⟨x2, e2, _, w2⟩ := DataW.trod_string Tryd.underlying9 g2
    injection e2 with e2 _
    subst e2
    exact ⟨⟨x0, x1, x2⟩, rfl, inI_of_wf w0, inI_of_wf w1, w2, trivial⟩
end Go.Proofs.YtdapgihghbmlfaaDoor
