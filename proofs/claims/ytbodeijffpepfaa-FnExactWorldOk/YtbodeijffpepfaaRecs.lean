/- The records of this package as data, and that they lie in memory. -/
import Derived.Test.YtbodeijffpepfaaSeq
import Derived.Test.YtbodeijffpepfaaRows
namespace Go.Proofs.Ytbodeijffpepfaa
open Go.RowKit Go.ChangeShapes
theorem inI_of_wf {n : Int} (h : (Lit.int .i64 n).wf = true) : InI n := by
  simp [Lit.wf, IntKind.min, IntKind.max, IntKind.signed, IntKind.bits] at h
  unfold InI; omega
theorem intAt_of_trod {H : Type} {enc : TypeId × Value → H} {w : World} {spare : Nat → Bool} {held : Bool} (n : Nat) (cs : List Value) (y : DataW H × List MemPlace) (h : DataW.trod enc Try.prog w 0 spare held n 2 cs = some y) : ∃ x, IntAt w 0 cs x := by
  obtain ⟨x, e, _, hw⟩ := DataW.trod_int Try.underlying2 h
  exact ⟨x, e, inI_of_wf hw⟩
structure ListenerD where
  vType : ByteArray
  vCapture : Bool
  vOnce : Bool
  vStop : Int
  vName : ByteArray
def ListenerAt (_ : World) (_ : Nat) (cs : List Value) (x : ListenerD) : Prop :=
  cs = [.string x.vType, .bool x.vCapture, .bool x.vOnce, .int .i64 x.vStop, .string x.vName] ∧ x.vType.size ≤ maxLen ∧ InI x.vStop ∧ x.vName.size ≤ maxLen ∧ True
theorem ListenerAt_stays : Stays ListenerAt := fun _ _ _ _ _ _ _ h => h
def ListenerD.small (x : ListenerD) : Prop := x.vType.size ≤ 1048576 ∧ x.vName.size ≤ 1048576 ∧ True
set_option maxRecDepth 100000 in
theorem ListenerAt_of_trod {H : Type} {enc : TypeId × Value → H} {w : World} {spare : Nat → Bool} {held : Bool} (n : Nat) (cs : List Value) (y : DataW H × List MemPlace) (h : DataW.trod enc Try.prog w 0 spare held n 147 cs = some y) : ∃ x, ListenerAt w 0 cs x := by
  obtain ⟨xs, m, rfl, rfl, hl, hlen, hf⟩ := DataW.trod_struct Try.underlying147 h
  have hl' : cs.length = 5 := hl.trans (by kernel_rfl)
  have hlen' : xs.length = 5 := hlen
  match cs, hl', xs, hlen' with
  | [c0, c1, c2, c3, c4], _, [y0, y1, y2, y3, y4], _ =>
    have g0 : DataW.trod enc Try.prog w 0 spare held m 9 [c0] = some y0 := hf 0 _ rfl
    obtain ⟨x0, e0, _, w0⟩ := DataW.trod_string Try.underlying9 g0
    injection e0 with e0 _
    subst e0
    have g1 : DataW.trod enc Try.prog w 0 spare held m 4 [c1] = some y1 := hf 1 _ rfl
    obtain ⟨x1, e1, _⟩ := DataW.trod_bool Try.underlying4 g1
    injection e1 with e1 _
    subst e1
    have g2 : DataW.trod enc Try.prog w 0 spare held m 4 [c2] = some y2 := hf 2 _ rfl
    obtain ⟨x2, e2, _⟩ := DataW.trod_bool Try.underlying4 g2
    injection e2 with e2 _
    subst e2
    have g3 : DataW.trod enc Try.prog w 0 spare held m 2 [c3] = some y3 := hf 3 _ rfl
    obtain ⟨x3, e3, _, w3⟩ := DataW.trod_int Try.underlying2 g3
    injection e3 with e3 _
    subst e3
    have g4 : DataW.trod enc Try.prog w 0 spare held m 9 [c4] = some y4 := hf 4 _ rfl
    obtain ⟨x4, e4, _, w4⟩ := DataW.trod_string Try.underlying9 g4
    injection e4 with e4 _
    subst e4
    exact ⟨⟨x0, x1, x2, x3, x4⟩, rfl, w0, inI_of_wf w3, w4, trivial⟩
structure NodeD where
  vId : Int
  vTag : ByteArray
  vParent : Int
  vKids : List Int
  vWrapper : Int
  vListeners : List ListenerD
def NodeAt (w : World) (lo : Nat) (cs : List Value) (x : NodeD) : Prop :=
  ∃ k3 k5 : Value, cs = [.int .i64 x.vId, .string x.vTag, .int .i64 x.vParent, k3, .int .i64 x.vWrapper, k5] ∧ SeqAt 1 IntAt w lo k3 x.vKids ∧ SeqAt 5 ListenerAt w lo k5 x.vListeners ∧ InI x.vId ∧ x.vTag.size ≤ maxLen ∧ InI x.vParent ∧ InI x.vWrapper ∧ True
theorem NodeAt_stays : Stays NodeAt := by
  intro w w' lo lo' cs x q h
  obtain ⟨k3, k5, e, h3, h5, r⟩ := h
  exact ⟨k3, k5, e, h3.keep intAt_stays q, h5.keep ListenerAt_stays q, r⟩
def NodeD.small (x : NodeD) : Prop := x.vTag.size ≤ 1048576 ∧ x.vKids.length ≤ 1048576 ∧ AllS ListenerD.small x.vListeners ∧ True
set_option maxRecDepth 100000 in
theorem NodeAt_of_trod {H : Type} {enc : TypeId × Value → H} {w : World} {spare : Nat → Bool} {held : Bool} (n : Nat) (cs : List Value) (y : DataW H × List MemPlace) (h : DataW.trod enc Try.prog w 0 spare held n 118 cs = some y) : ∃ x, NodeAt w 0 cs x := by
  obtain ⟨xs, m, rfl, rfl, hl, hlen, hf⟩ := DataW.trod_struct Try.underlying118 h
  have hl' : cs.length = 6 := hl.trans (by kernel_rfl)
  have hlen' : xs.length = 6 := hlen
  match cs, hl', xs, hlen' with
  | [c0, c1, c2, c3, c4, c5], _, [y0, y1, y2, y3, y4, y5], _ =>
    have g0 : DataW.trod enc Try.prog w 0 spare held m 2 [c0] = some y0 := hf 0 _ rfl
    obtain ⟨x0, e0, _, w0⟩ := DataW.trod_int Try.underlying2 g0
    injection e0 with e0 _
    subst e0
    have g1 : DataW.trod enc Try.prog w 0 spare held m 9 [c1] = some y1 := hf 1 _ rfl
    obtain ⟨x1, e1, _, w1⟩ := DataW.trod_string Try.underlying9 g1
    injection e1 with e1 _
    subst e1
    have g2 : DataW.trod enc Try.prog w 0 spare held m 2 [c2] = some y2 := hf 2 _ rfl
    obtain ⟨x2, e2, _, w2⟩ := DataW.trod_int Try.underlying2 g2
    injection e2 with e2 _
    subst e2
    have g3 : DataW.trod enc Try.prog w 0 spare held m 66 [c3] = some y3 := hf 3 _ rfl
    obtain ⟨k3, x3, e3, s3⟩ := seqAt_of_trod (R := IntAt) Try.underlying66 (show Try.prog.cellsOf 2 = 1 from by kernel_rfl) (by decide) intAt_of_trod g3
    injection e3 with e3 _
    subst e3
    have g4 : DataW.trod enc Try.prog w 0 spare held m 2 [c4] = some y4 := hf 4 _ rfl
    obtain ⟨x4, e4, _, w4⟩ := DataW.trod_int Try.underlying2 g4
    injection e4 with e4 _
    subst e4
    have g5 : DataW.trod enc Try.prog w 0 spare held m 116 [c5] = some y5 := hf 5 _ rfl
    obtain ⟨k5, x5, e5, s5⟩ := seqAt_of_trod (R := ListenerAt) Try.underlying116 (show Try.prog.cellsOf 147 = 5 from by kernel_rfl) (by decide) ListenerAt_of_trod g5
    injection e5 with e5 _
    subst e5
    exact ⟨⟨x0, x1, x2, x3, x4, x5⟩, c3, c5, rfl, s3, s5, inI_of_wf w0, w1, inI_of_wf w2, inI_of_wf w4, trivial⟩
structure FieldD where
  vName : ByteArray
  vObj : Int
def FieldAt (_ : World) (_ : Nat) (cs : List Value) (x : FieldD) : Prop :=
  cs = [.string x.vName, .int .i64 x.vObj] ∧ x.vName.size ≤ maxLen ∧ InI x.vObj ∧ True
theorem FieldAt_stays : Stays FieldAt := fun _ _ _ _ _ _ _ h => h
def FieldD.small (x : FieldD) : Prop := x.vName.size ≤ 1048576 ∧ True
set_option maxRecDepth 100000 in
theorem FieldAt_of_trod {H : Type} {enc : TypeId × Value → H} {w : World} {spare : Nat → Bool} {held : Bool} (n : Nat) (cs : List Value) (y : DataW H × List MemPlace) (h : DataW.trod enc Try.prog w 0 spare held n 123 cs = some y) : ∃ x, FieldAt w 0 cs x := by
  obtain ⟨xs, m, rfl, rfl, hl, hlen, hf⟩ := DataW.trod_struct Try.underlying123 h
  have hl' : cs.length = 2 := hl.trans (by kernel_rfl)
  have hlen' : xs.length = 2 := hlen
  match cs, hl', xs, hlen' with
  | [c0, c1], _, [y0, y1], _ =>
    have g0 : DataW.trod enc Try.prog w 0 spare held m 9 [c0] = some y0 := hf 0 _ rfl
    obtain ⟨x0, e0, _, w0⟩ := DataW.trod_string Try.underlying9 g0
    injection e0 with e0 _
    subst e0
    have g1 : DataW.trod enc Try.prog w 0 spare held m 2 [c1] = some y1 := hf 1 _ rfl
    obtain ⟨x1, e1, _, w1⟩ := DataW.trod_int Try.underlying2 g1
    injection e1 with e1 _
    subst e1
    exact ⟨⟨x0, x1⟩, rfl, w0, inI_of_wf w1, trivial⟩
structure ObjD where
  vId : Int
  vNode : Int
  vFields : List FieldD
def ObjAt (w : World) (lo : Nat) (cs : List Value) (x : ObjD) : Prop :=
  ∃ k2 : Value, cs = [.int .i64 x.vId, .int .i64 x.vNode, k2] ∧ SeqAt 2 FieldAt w lo k2 x.vFields ∧ InI x.vId ∧ InI x.vNode ∧ True
theorem ObjAt_stays : Stays ObjAt := by
  intro w w' lo lo' cs x q h
  obtain ⟨k2, e, h2, r⟩ := h
  exact ⟨k2, e, h2.keep FieldAt_stays q, r⟩
def ObjD.small (x : ObjD) : Prop := AllS FieldD.small x.vFields ∧ True
set_option maxRecDepth 100000 in
theorem ObjAt_of_trod {H : Type} {enc : TypeId × Value → H} {w : World} {spare : Nat → Bool} {held : Bool} (n : Nat) (cs : List Value) (y : DataW H × List MemPlace) (h : DataW.trod enc Try.prog w 0 spare held n 121 cs = some y) : ∃ x, ObjAt w 0 cs x := by
  obtain ⟨xs, m, rfl, rfl, hl, hlen, hf⟩ := DataW.trod_struct Try.underlying121 h
  have hl' : cs.length = 3 := hl.trans (by kernel_rfl)
  have hlen' : xs.length = 3 := hlen
  match cs, hl', xs, hlen' with
  | [c0, c1, c2], _, [y0, y1, y2], _ =>
    have g0 : DataW.trod enc Try.prog w 0 spare held m 2 [c0] = some y0 := hf 0 _ rfl
    obtain ⟨x0, e0, _, w0⟩ := DataW.trod_int Try.underlying2 g0
    injection e0 with e0 _
    subst e0
    have g1 : DataW.trod enc Try.prog w 0 spare held m 2 [c1] = some y1 := hf 1 _ rfl
    obtain ⟨x1, e1, _, w1⟩ := DataW.trod_int Try.underlying2 g1
    injection e1 with e1 _
    subst e1
    have g2 : DataW.trod enc Try.prog w 0 spare held m 60 [c2] = some y2 := hf 2 _ rfl
    obtain ⟨k2, x2, e2, s2⟩ := seqAt_of_trod (R := FieldAt) Try.underlying60 (show Try.prog.cellsOf 123 = 2 from by kernel_rfl) (by decide) FieldAt_of_trod g2
    injection e2 with e2 _
    subst e2
    exact ⟨⟨x0, x1, x2⟩, c2, rfl, s2, inI_of_wf w0, inI_of_wf w1, trivial⟩
structure HeapD where
  vNext : Int
  vDoc : Int
  vNodes : List NodeD
  vObjs : List ObjD
  vGlobals : List FieldD
def HeapAt (w : World) (lo : Nat) (cs : List Value) (x : HeapD) : Prop :=
  ∃ k2 k3 k4 : Value, cs = [.int .i64 x.vNext, .int .i64 x.vDoc, k2, k3, k4] ∧ SeqAt 6 NodeAt w lo k2 x.vNodes ∧ SeqAt 3 ObjAt w lo k3 x.vObjs ∧ SeqAt 2 FieldAt w lo k4 x.vGlobals ∧ InI x.vNext ∧ InI x.vDoc ∧ True
theorem HeapAt_stays : Stays HeapAt := by
  intro w w' lo lo' cs x q h
  obtain ⟨k2, k3, k4, e, h2, h3, h4, r⟩ := h
  exact ⟨k2, k3, k4, e, h2.keep NodeAt_stays q, h3.keep ObjAt_stays q, h4.keep FieldAt_stays q, r⟩
def HeapD.small (x : HeapD) : Prop := AllS NodeD.small x.vNodes ∧ AllS ObjD.small x.vObjs ∧ AllS FieldD.small x.vGlobals ∧ True
set_option maxRecDepth 100000 in
theorem HeapAt_of_trod {H : Type} {enc : TypeId × Value → H} {w : World} {spare : Nat → Bool} {held : Bool} (n : Nat) (cs : List Value) (y : DataW H × List MemPlace) (h : DataW.trod enc Try.prog w 0 spare held n 62 cs = some y) : ∃ x, HeapAt w 0 cs x := by
  obtain ⟨xs, m, rfl, rfl, hl, hlen, hf⟩ := DataW.trod_struct Try.underlying62 h
  have hl' : cs.length = 5 := hl.trans (by kernel_rfl)
  have hlen' : xs.length = 5 := hlen
  match cs, hl', xs, hlen' with
  | [c0, c1, c2, c3, c4], _, [y0, y1, y2, y3, y4], _ =>
    have g0 : DataW.trod enc Try.prog w 0 spare held m 2 [c0] = some y0 := hf 0 _ rfl
    obtain ⟨x0, e0, _, w0⟩ := DataW.trod_int Try.underlying2 g0
    injection e0 with e0 _
    subst e0
    have g1 : DataW.trod enc Try.prog w 0 spare held m 2 [c1] = some y1 := hf 1 _ rfl
    obtain ⟨x1, e1, _, w1⟩ := DataW.trod_int Try.underlying2 g1
    injection e1 with e1 _
    subst e1
    have g2 : DataW.trod enc Try.prog w 0 spare held m 58 [c2] = some y2 := hf 2 _ rfl
    obtain ⟨k2, x2, e2, s2⟩ := seqAt_of_trod (R := NodeAt) Try.underlying58 (show Try.prog.cellsOf 118 = 6 from by kernel_rfl) (by decide) NodeAt_of_trod g2
    injection e2 with e2 _
    subst e2
    have g3 : DataW.trod enc Try.prog w 0 spare held m 59 [c3] = some y3 := hf 3 _ rfl
    obtain ⟨k3, x3, e3, s3⟩ := seqAt_of_trod (R := ObjAt) Try.underlying59 (show Try.prog.cellsOf 121 = 3 from by kernel_rfl) (by decide) ObjAt_of_trod g3
    injection e3 with e3 _
    subst e3
    have g4 : DataW.trod enc Try.prog w 0 spare held m 60 [c4] = some y4 := hf 4 _ rfl
    obtain ⟨k4, x4, e4, s4⟩ := seqAt_of_trod (R := FieldAt) Try.underlying60 (show Try.prog.cellsOf 123 = 2 from by kernel_rfl) (by decide) FieldAt_of_trod g4
    injection e4 with e4 _
    subst e4
    exact ⟨⟨x0, x1, x2, x3, x4⟩, c2, c3, c4, rfl, s2, s3, s4, inI_of_wf w0, inI_of_wf w1, trivial⟩
end Go.Proofs.Ytbodeijffpepfaa
