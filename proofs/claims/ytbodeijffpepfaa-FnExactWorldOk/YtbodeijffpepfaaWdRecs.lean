/- The records of this package as data, and that they lie in memory. -/
import Derived.Test.YtbodeijffpepfaaRecs
namespace Go.Proofs.Ytbodeijffpepfaa
open Go.RowKit Go.ChangeShapes
structure PostD where
  vFrom : Int
  vTo : Int
  vText : ByteArray
def PostAt (_ : World) (_ : Nat) (cs : List Value) (x : PostD) : Prop :=
  cs = [.int .i64 x.vFrom, .int .i64 x.vTo, .string x.vText] ∧ InI x.vFrom ∧ InI x.vTo ∧ x.vText.size ≤ maxLen ∧ True
theorem PostAt_stays : Stays PostAt := fun _ _ _ _ _ _ _ h => h
def PostD.small (x : PostD) : Prop := x.vText.size ≤ 1048576 ∧ True
set_option maxRecDepth 100000 in
theorem PostAt_of_trod {H : Type} {enc : TypeId × Value → H} {w : World} {spare : Nat → Bool} {held : Bool} (n : Nat) (cs : List Value) (y : DataW H × List MemPlace) (h : DataW.trod enc Try.prog w 0 spare held n 64 cs = some y) : ∃ x, PostAt w 0 cs x := by
  obtain ⟨xs, m, rfl, rfl, hl, hlen, hf⟩ := DataW.trod_struct Try.underlying64 h
  have hl' : cs.length = 3 := hl.trans (by kernel_rfl)
  have hlen' : xs.length = 3 := hlen
  match cs, hl', xs, hlen' with
  | [c0, c1, c2], _, [y0, y1, y2], _ =>
    have g0 : DataW.trod enc Try.prog w 0 spare held m 2 [c0] = some y0 := hf 0 _ rfl
    obtain ⟨x0, e0, _, w0⟩ := DataW.trod_int Try.underlying2 g0
    injection e0 with e0 _
    subst e0
    have g1 : DataW.trod enc Try.prog w 0 spare held m 2 [c1] = some y1 := hf 1 _ rfl
    obtain ⟨x1, e1, _, w1⟩ := DataW.trod_int Try.underlying2 g1
    injection e1 with e1 _
    subst e1
    have g2 : DataW.trod enc Try.prog w 0 spare held m 9 [c2] = some y2 := hf 2 _ rfl
    obtain ⟨x2, e2, _, w2⟩ := DataW.trod_string Try.underlying9 g2
    injection e2 with e2 _
    subst e2
    exact ⟨⟨x0, x1, x2⟩, rfl, inI_of_wf w0, inI_of_wf w1, w2, trivial⟩
structure WorldD where
  vHeaps : List HeapD
  vPosts : List PostD
def WorldAt (w : World) (lo : Nat) (cs : List Value) (x : WorldD) : Prop :=
  ∃ k0 k1 : Value, cs = [k0, k1] ∧ SeqAt 5 HeapAt w lo k0 x.vHeaps ∧ SeqAt 3 PostAt w lo k1 x.vPosts ∧ True
theorem WorldAt_stays : Stays WorldAt := by
  intro w w' lo lo' cs x q h
  obtain ⟨k0, k1, e, h0, h1, r⟩ := h
  exact ⟨k0, k1, e, h0.keep HeapAt_stays q, h1.keep PostAt_stays q, r⟩
def WorldD.small (x : WorldD) : Prop := AllS HeapD.small x.vHeaps ∧ AllS PostD.small x.vPosts ∧ True
set_option maxRecDepth 100000 in
theorem WorldAt_of_trod {H : Type} {enc : TypeId × Value → H} {w : World} {spare : Nat → Bool} {held : Bool} (n : Nat) (cs : List Value) (y : DataW H × List MemPlace) (h : DataW.trod enc Try.prog w 0 spare held n 25 cs = some y) : ∃ x, WorldAt w 0 cs x := by
  obtain ⟨xs, m, rfl, rfl, hl, hlen, hf⟩ := DataW.trod_struct Try.underlying25 h
  have hl' : cs.length = 2 := hl.trans (by kernel_rfl)
  have hlen' : xs.length = 2 := hlen
  match cs, hl', xs, hlen' with
  | [c0, c1], _, [y0, y1], _ =>
    have g0 : DataW.trod enc Try.prog w 0 spare held m 22 [c0] = some y0 := hf 0 _ rfl
    obtain ⟨k0, x0, e0, s0⟩ := seqAt_of_trod (R := HeapAt) Try.underlying22 (show Try.prog.cellsOf 62 = 5 from by kernel_rfl) (by decide) HeapAt_of_trod g0
    injection e0 with e0 _
    subst e0
    have g1 : DataW.trod enc Try.prog w 0 spare held m 23 [c1] = some y1 := hf 1 _ rfl
    obtain ⟨k1, x1, e1, s1⟩ := seqAt_of_trod (R := PostAt) Try.underlying23 (show Try.prog.cellsOf 64 = 3 from by kernel_rfl) (by decide) PostAt_of_trod g1
    injection e1 with e1 _
    subst e1
    exact ⟨⟨x0, x1⟩, c0, c1, rfl, s0, s1, trivial⟩
end Go.Proofs.Ytbodeijffpepfaa
