/-
  NARROWER THAN 'FOR EVERY INPUT', by the rows' own cells (each row's printed sentence says how): FnExactEditOk: loops · FnExactEdited: loops · FnExactEditedAll: loops · FnExactUndone: loops · FnExactDiffed: loops.
  DERIVED. THE GIVEN ROWS OF THIS SEAT. 5 by the template 'for every input the law returns true; each argument reads behind the call as it read before'; 0 by the template 'total and deterministic' (their statements: YtfncmndgdomjiaaTotals.lean).
  GIVEN WITH THE SEED: the statements are not yours to turn. If you find one false, say at which input.
  Laid BY PROGRAM, IN A SANDBOX (cutbox-rows.mjs): the forced cells as the released guide's own fill.sh prints them over the translation f011073c640bba6a… (all of the seat's roots in one cut). By AI agents, Wed Nov 11 2026. No macro, syntax, notation, axiom, sorry.
-/
import Derived.Test.YtfncmndgdomjiaaChecked
import GoSem.Claim
import GoSem.ClaimJoined
import GoSem.ClaimMapViews
import Derived.JoinedTies
import Derived.KernelRfl
namespace Go.Proofs.Ytfncmndgdomjiaa
/- THE CELL 'sum', in the pinned program and in every row, IS THE sha256 OF THE DUMP (.gsa) THAT YtfncmndgdomjiaaProg.lean LOADS. Nothing in Lean hashes anything: it is a label: what it is worth is what the hold of that sum in a sandbox is worth. -/
noncomputable def Try.pinned : Pinned := { name := "ytfncmndgdomjiaa", sum := "f011073c640bba6a5fefeb5b97fe6f934781346bba2e7929a1ee6f167403cd7c", checked := Try.checked }
namespace Rows
def none {H : Type} : Left H := { results := [], args := [] }

/-- 'laws.FnExactEditOk': WHATEVER THE INPUT: true; the input reads as it did. -/
def fnExactEditOkSpec : ChangeSpec := { name := "fnExactEditOk", fn := fun _ => fun
  | [d1, d2] => { results := [.lit (.bool true)], args := [d1, d2] }
  | _ => none }
def fnExactEditOkRow : OpenClaim := { program := "ytfncmndgdomjiaa", sum := "f011073c640bba6a5fefeb5b97fe6f934781346bba2e7929a1ee6f167403cd7c", func := "loop.example/g00376/laws.FnExactEditOk", spec := "fnExactEditOk", inPlace := ["slices.overlaps[loop.example/g00376/impl.Tree]"], unfollowed := true, recurses := true, loops := true, apart := false }
def FnExactEditOkSaid : Prop := fnExactEditOkRow.holds Try.pinned (OpenSpec.ofChange fnExactEditOkSpec)

/-- ITS FALSE NEIGHBOUR: 'it returns false'. Refute it at one input. -/
def fnExactEditOkWrong : ChangeSpec := { name := "fnExactEditOk", fn := fun _ => fun
  | [d1, d2] => { results := [.lit (.bool false)], args := [d1, d2] }
  | _ => none }
def FnExactEditOkWrongFalsely : Prop := fnExactEditOkRow.holds Try.pinned (OpenSpec.ofChange fnExactEditOkWrong)

/-- 'laws.FnExactEdited': WHATEVER THE INPUT: true; the input reads as it did. -/
def fnExactEditedSpec : ChangeSpec := { name := "fnExactEdited", fn := fun _ => fun
  | [d1, d2] => { results := [.lit (.bool true)], args := [d1, d2] }
  | _ => none }
def fnExactEditedRow : OpenClaim := { program := "ytfncmndgdomjiaa", sum := "f011073c640bba6a5fefeb5b97fe6f934781346bba2e7929a1ee6f167403cd7c", func := "loop.example/g00376/laws.FnExactEdited", spec := "fnExactEdited", inPlace := ["slices.overlaps[loop.example/g00376/impl.Tree]"], unfollowed := true, recurses := true, loops := true, apart := false }
def FnExactEditedSaid : Prop := fnExactEditedRow.holds Try.pinned (OpenSpec.ofChange fnExactEditedSpec)

/-- ITS FALSE NEIGHBOUR: 'it returns false'. Refute it at one input. -/
def fnExactEditedWrong : ChangeSpec := { name := "fnExactEdited", fn := fun _ => fun
  | [d1, d2] => { results := [.lit (.bool false)], args := [d1, d2] }
  | _ => none }
def FnExactEditedWrongFalsely : Prop := fnExactEditedRow.holds Try.pinned (OpenSpec.ofChange fnExactEditedWrong)

/-- 'laws.FnExactEditedAll': WHATEVER THE INPUT: true; the input reads as it did. -/
def fnExactEditedAllSpec : ChangeSpec := { name := "fnExactEditedAll", fn := fun _ => fun
  | [d1, d2] => { results := [.lit (.bool true)], args := [d1, d2] }
  | _ => none }
def fnExactEditedAllRow : OpenClaim := { program := "ytfncmndgdomjiaa", sum := "f011073c640bba6a5fefeb5b97fe6f934781346bba2e7929a1ee6f167403cd7c", func := "loop.example/g00376/laws.FnExactEditedAll", spec := "fnExactEditedAll", inPlace := ["slices.overlaps[loop.example/g00376/impl.Tree]"], unfollowed := true, recurses := true, loops := true, apart := false }
def FnExactEditedAllSaid : Prop := fnExactEditedAllRow.holds Try.pinned (OpenSpec.ofChange fnExactEditedAllSpec)

/-- ITS FALSE NEIGHBOUR: 'it returns false'. Refute it at one input. -/
def fnExactEditedAllWrong : ChangeSpec := { name := "fnExactEditedAll", fn := fun _ => fun
  | [d1, d2] => { results := [.lit (.bool false)], args := [d1, d2] }
  | _ => none }
def FnExactEditedAllWrongFalsely : Prop := fnExactEditedAllRow.holds Try.pinned (OpenSpec.ofChange fnExactEditedAllWrong)

/-- 'laws.FnExactUndone': WHATEVER THE INPUT: true; the input reads as it did. -/
def fnExactUndoneSpec : ChangeSpec := { name := "fnExactUndone", fn := fun _ => fun
  | [d1, d2] => { results := [.lit (.bool true)], args := [d1, d2] }
  | _ => none }
def fnExactUndoneRow : OpenClaim := { program := "ytfncmndgdomjiaa", sum := "f011073c640bba6a5fefeb5b97fe6f934781346bba2e7929a1ee6f167403cd7c", func := "loop.example/g00376/laws.FnExactUndone", spec := "fnExactUndone", inPlace := ["slices.overlaps[loop.example/g00376/impl.Tree]"], unfollowed := true, recurses := true, loops := true, apart := false }
def FnExactUndoneSaid : Prop := fnExactUndoneRow.holds Try.pinned (OpenSpec.ofChange fnExactUndoneSpec)

/-- ITS FALSE NEIGHBOUR: 'it returns false'. Refute it at one input. -/
def fnExactUndoneWrong : ChangeSpec := { name := "fnExactUndone", fn := fun _ => fun
  | [d1, d2] => { results := [.lit (.bool false)], args := [d1, d2] }
  | _ => none }
def FnExactUndoneWrongFalsely : Prop := fnExactUndoneRow.holds Try.pinned (OpenSpec.ofChange fnExactUndoneWrong)

/-- 'laws.FnExactDiffed': WHATEVER THE INPUT: true; the input reads as it did. -/
def fnExactDiffedSpec : ChangeSpec := { name := "fnExactDiffed", fn := fun _ => fun
  | [d1, d2] => { results := [.lit (.bool true)], args := [d1, d2] }
  | _ => none }
def fnExactDiffedRow : OpenClaim := { program := "ytfncmndgdomjiaa", sum := "f011073c640bba6a5fefeb5b97fe6f934781346bba2e7929a1ee6f167403cd7c", func := "loop.example/g00376/laws.FnExactDiffed", spec := "fnExactDiffed", recurses := true, loops := true, apart := false }
def FnExactDiffedSaid : Prop := fnExactDiffedRow.holds Try.pinned (OpenSpec.ofChange fnExactDiffedSpec)

/-- ITS FALSE NEIGHBOUR: 'it returns false'. Refute it at one input. -/
def fnExactDiffedWrong : ChangeSpec := { name := "fnExactDiffed", fn := fun _ => fun
  | [d1, d2] => { results := [.lit (.bool false)], args := [d1, d2] }
  | _ => none }
def FnExactDiffedWrongFalsely : Prop := fnExactDiffedRow.holds Try.pinned (OpenSpec.ofChange fnExactDiffedWrong)

/- THE SECOND FORM. 'bulk': how many values and letters a reading holds, each counted each time it is reached (what is shared counts as often as it is met; a slice's spare places count too). A statement '..UptoSaid' is the law's where the arguments, and the package variables that the reading takes, are together of bulk at most 1048576: NARROWER than '..Said'. Prove '..Said' where nothing that the law and all that it calls make is longer than what came in: it says more and counts as full. Else prove '..UptoSaid'. A law counts once. -/
mutual
def uptoBulk {H : Type} : DataW H → Nat
  | .lit (.string bytes) => bytes.length + 1
  | .lit _ => 1
  | .nil => 1
  | .ptr d => uptoBulk d + 1
  | .slice elems spare => uptoBulkAll elems + uptoBulkAll spare + 1
  | .agg parts => uptoBulkAll parts + 1
  | .iface _ d => uptoBulk d + 1
  | .map entries => uptoBulkEntries entries + 1
  | .held _ => 1
def uptoBulkAll {H : Type} : List (DataW H) → Nat
  | [] => 0
  | d :: r => uptoBulk d + uptoBulkAll r
def uptoBulkEntries {H : Type} : List (Lit × DataW H) → Nat
  | [] => 0
  | x :: r => uptoBulkEntry x + uptoBulkEntries r
def uptoBulkEntry {H : Type} : Lit × DataW H → Nat
  | (.string bytes, d) => bytes.length + uptoBulk d + 1
  | (_, d) => uptoBulk d + 1
 end
def uptoSmall : (H : Type) → List (DataW H) → Bool := fun _ ds => decide (uptoBulkAll ds ≤ 1048576)
def OpenSpec.upto (s : _root_.Go.ChangeSpec) : _root_.Go.OpenSpec := { _root_.Go.OpenSpec.ofChange s with cond := some uptoSmall }

/-- 'laws.FnExactEditOk', WHERE WHAT IT READS IS OF BULK AT MOST 1048576: true; the input reads as it did. -/
def fnExactEditOkUptoRow : OpenClaim := { program := "ytfncmndgdomjiaa", sum := "f011073c640bba6a5fefeb5b97fe6f934781346bba2e7929a1ee6f167403cd7c", func := "loop.example/g00376/laws.FnExactEditOk", spec := "fnExactEditOk", inPlace := ["slices.overlaps[loop.example/g00376/impl.Tree]"], unfollowed := true, recurses := true, loops := true, apart := false, narrowed := true }
def FnExactEditOkUptoSaid : Prop := fnExactEditOkUptoRow.holds Try.pinned (OpenSpec.upto fnExactEditOkSpec)

/-- 'laws.FnExactEdited', WHERE WHAT IT READS IS OF BULK AT MOST 1048576: true; the input reads as it did. -/
def fnExactEditedUptoRow : OpenClaim := { program := "ytfncmndgdomjiaa", sum := "f011073c640bba6a5fefeb5b97fe6f934781346bba2e7929a1ee6f167403cd7c", func := "loop.example/g00376/laws.FnExactEdited", spec := "fnExactEdited", inPlace := ["slices.overlaps[loop.example/g00376/impl.Tree]"], unfollowed := true, recurses := true, loops := true, apart := false, narrowed := true }
def FnExactEditedUptoSaid : Prop := fnExactEditedUptoRow.holds Try.pinned (OpenSpec.upto fnExactEditedSpec)

/-- 'laws.FnExactEditedAll', WHERE WHAT IT READS IS OF BULK AT MOST 1048576: true; the input reads as it did. -/
def fnExactEditedAllUptoRow : OpenClaim := { program := "ytfncmndgdomjiaa", sum := "f011073c640bba6a5fefeb5b97fe6f934781346bba2e7929a1ee6f167403cd7c", func := "loop.example/g00376/laws.FnExactEditedAll", spec := "fnExactEditedAll", inPlace := ["slices.overlaps[loop.example/g00376/impl.Tree]"], unfollowed := true, recurses := true, loops := true, apart := false, narrowed := true }
def FnExactEditedAllUptoSaid : Prop := fnExactEditedAllUptoRow.holds Try.pinned (OpenSpec.upto fnExactEditedAllSpec)

/-- 'laws.FnExactUndone', WHERE WHAT IT READS IS OF BULK AT MOST 1048576: true; the input reads as it did. -/
def fnExactUndoneUptoRow : OpenClaim := { program := "ytfncmndgdomjiaa", sum := "f011073c640bba6a5fefeb5b97fe6f934781346bba2e7929a1ee6f167403cd7c", func := "loop.example/g00376/laws.FnExactUndone", spec := "fnExactUndone", inPlace := ["slices.overlaps[loop.example/g00376/impl.Tree]"], unfollowed := true, recurses := true, loops := true, apart := false, narrowed := true }
def FnExactUndoneUptoSaid : Prop := fnExactUndoneUptoRow.holds Try.pinned (OpenSpec.upto fnExactUndoneSpec)

/-- 'laws.FnExactDiffed', WHERE WHAT IT READS IS OF BULK AT MOST 1048576: true; the input reads as it did. -/
def fnExactDiffedUptoRow : OpenClaim := { program := "ytfncmndgdomjiaa", sum := "f011073c640bba6a5fefeb5b97fe6f934781346bba2e7929a1ee6f167403cd7c", func := "loop.example/g00376/laws.FnExactDiffed", spec := "fnExactDiffed", recurses := true, loops := true, apart := false, narrowed := true }
def FnExactDiffedUptoSaid : Prop := fnExactDiffedUptoRow.holds Try.pinned (OpenSpec.upto fnExactDiffedSpec)

end Rows
end Go.Proofs.Ytfncmndgdomjiaa
