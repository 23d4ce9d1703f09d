/- The records of this package as data, and that they lie in memory. -/
import Derived.Test.YtcpbcpckmclciaaSeq
import Derived.Test.YtcpbcpckmclciaaRows
namespace Go.Proofs.Ytcpbcpckmclciaa
open Go.RowKit Go.ChangeShapes
theorem inI_of_wf {n : Int} (h : (Lit.int .i64 n).wf = true) : InI n := by
  simp [Lit.wf, IntKind.min, IntKind.max, IntKind.signed, IntKind.bits] at h
  unfold InI; omega
theorem intAt_of_trod {H : Type} {enc : TypeId × Value → H} {w : World} {spare : Nat → Bool} {held : Bool} (n : Nat) (cs : List Value) (y : DataW H × List MemPlace) (h : DataW.trod enc Try.prog w 0 spare held n 2 cs = some y) : ∃ x, IntAt w 0 cs x := by
  obtain ⟨x, e, _, hw⟩ := DataW.trod_int Try.underlying2 h
  exact ⟨x, e, inI_of_wf hw⟩
structure SlotD where
  vGen : Int
  vUsed : Bool
  vData : ByteArray
def SlotAt (_ : World) (_ : Nat) (cs : List Value) (x : SlotD) : Prop :=
  cs = [.int .i64 x.vGen, .bool x.vUsed, .string x.vData] ∧ InI x.vGen ∧ x.vData.size ≤ maxLen ∧ True
theorem SlotAt_stays : Stays SlotAt := fun _ _ _ _ _ _ _ h => h
def SlotD.small (x : SlotD) : Prop := x.vData.size ≤ 1048576 ∧ True
set_option maxRecDepth 100000 in
theorem SlotAt_of_trod {H : Type} {enc : TypeId × Value → H} {w : World} {spare : Nat → Bool} {held : Bool} (n : Nat) (cs : List Value) (y : DataW H × List MemPlace) (h : DataW.trod enc Try.prog w 0 spare held n 78 cs = some y) : ∃ x, SlotAt w 0 cs x := by
  obtain ⟨xs, m, rfl, rfl, hl, hlen, hf⟩ := DataW.trod_struct Try.underlying78 h
  have hl' : cs.length = 3 := hl.trans (by kernel_rfl)
  have hlen' : xs.length = 3 := hlen
  match cs, hl', xs, hlen' with
  | [c0, c1, c2], _, [y0, y1, y2], _ =>
    have g0 : DataW.trod enc Try.prog w 0 spare held m 2 [c0] = some y0 := hf 0 _ rfl
    obtain ⟨x0, e0, _, w0⟩ := DataW.trod_int Try.underlying2 g0
    injection e0 with e0 _
    subst e0
    have g1 : DataW.trod enc Try.prog w 0 spare held m 4 [c1] = some y1 := hf 1 _ rfl
    obtain ⟨x1, e1, _⟩ := DataW.trod_bool Try.underlying4 g1
    injection e1 with e1 _
    subst e1
    have g2 : DataW.trod enc Try.prog w 0 spare held m 9 [c2] = some y2 := hf 2 _ rfl
    obtain ⟨x2, e2, _, w2⟩ := DataW.trod_string Try.underlying9 g2
    injection e2 with e2 _
    subst e2
    exact ⟨⟨x0, x1, x2⟩, rfl, inI_of_wf w0, w2, trivial⟩
structure ArenaD where
  vSlots : List SlotD
  vFree : List Int
def ArenaAt (w : World) (lo : Nat) (cs : List Value) (x : ArenaD) : Prop :=
  ∃ k0 k1 : Value, cs = [k0, k1] ∧ SeqAt 3 SlotAt w lo k0 x.vSlots ∧ SeqAt 1 IntAt w lo k1 x.vFree ∧ True
theorem ArenaAt_stays : Stays ArenaAt := by
  intro w w' lo lo' cs x q h
  obtain ⟨k0, k1, e, h0, h1, r⟩ := h
  exact ⟨k0, k1, e, h0.keep SlotAt_stays q, h1.keep intAt_stays q, r⟩
def ArenaD.small (x : ArenaD) : Prop := AllS SlotD.small x.vSlots ∧ x.vFree.length ≤ 1048576 ∧ True
set_option maxRecDepth 100000 in
theorem ArenaAt_of_trod {H : Type} {enc : TypeId × Value → H} {w : World} {spare : Nat → Bool} {held : Bool} (n : Nat) (cs : List Value) (y : DataW H × List MemPlace) (h : DataW.trod enc Try.prog w 0 spare held n 25 cs = some y) : ∃ x, ArenaAt w 0 cs x := by
  obtain ⟨xs, m, rfl, rfl, hl, hlen, hf⟩ := DataW.trod_struct Try.underlying25 h
  have hl' : cs.length = 2 := hl.trans (by kernel_rfl)
  have hlen' : xs.length = 2 := hlen
  match cs, hl', xs, hlen' with
  | [c0, c1], _, [y0, y1], _ =>
    have g0 : DataW.trod enc Try.prog w 0 spare held m 22 [c0] = some y0 := hf 0 _ rfl
    obtain ⟨k0, x0, e0, s0⟩ := seqAt_of_trod (R := SlotAt) Try.underlying22 (show Try.prog.cellsOf 78 = 3 from by kernel_rfl) (by decide) SlotAt_of_trod g0
    injection e0 with e0 _
    subst e0
    have g1 : DataW.trod enc Try.prog w 0 spare held m 23 [c1] = some y1 := hf 1 _ rfl
    obtain ⟨k1, x1, e1, s1⟩ := seqAt_of_trod (R := IntAt) Try.underlying23 (show Try.prog.cellsOf 2 = 1 from by kernel_rfl) (by decide) intAt_of_trod g1
    injection e1 with e1 _
    subst e1
    exact ⟨⟨x0, x1⟩, c0, c1, rfl, s0, s1, trivial⟩
structure HandleD where
  vAt : Int
  vGen : Int
def HandleAt (_ : World) (_ : Nat) (cs : List Value) (x : HandleD) : Prop :=
  cs = [.int .i64 x.vAt, .int .i64 x.vGen] ∧ InI x.vAt ∧ InI x.vGen ∧ True
theorem HandleAt_stays : Stays HandleAt := fun _ _ _ _ _ _ _ h => h
def HandleD.small (_ : HandleD) : Prop := True
end Go.Proofs.Ytcpbcpckmclciaa
