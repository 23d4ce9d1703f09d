/-
  No cell of these rows narrows 'for every input' (looked for: loops, veiled, ifaces, maps, wideKeys, modest, calm, conditions, laid).
  DERIVED. THE GIVEN ROWS OF THIS SEAT. 5 by the template 'for every input the law returns true; each argument reads behind the call as it read before'; 0 by the template 'total and deterministic' (their statements: YtndffcogddefiaaTotals.lean).
  GIVEN WITH THE SEED: the statements are not yours to turn. If you find one false, say at which input.
  Laid BY PROGRAM, IN A SANDBOX (cutbox-rows.mjs): the forced cells as the released guide's own fill.sh prints them over the translation 32107f5f7ac91b4b… (all of the seat's roots in one cut). By AI agents, Wed Nov 11 2026. No macro, syntax, notation, axiom, sorry.
-/
import Derived.Test.YtndffcogddefiaaChecked
import GoSem.Claim
import GoSem.ClaimJoined
import GoSem.ClaimMapViews
import Derived.JoinedTies
import Derived.KernelRfl
namespace Go.Proofs.Ytndffcogddefiaa
/- THE CELL 'sum', in the pinned program and in every row, IS THE sha256 OF THE DUMP (.gsa) THAT YtndffcogddefiaaProg.lean LOADS. Nothing in Lean hashes anything: it is a label: what it is worth is what the hold of that sum in a sandbox is worth. -/
noncomputable def Try.pinned : Pinned := { name := "ytndffcogddefiaa", sum := "32107f5f7ac91b4bb6dfdd83a7d852247e5238f213f0e41cd98940c4223e2bc6", checked := Try.checked }
namespace Rows
def none {H : Type} : Left H := { results := [], args := [] }

/-- 'laws.FnEdited': WHATEVER THE INPUT: true; the input reads as it did. -/
def fnEditedSpec : ChangeSpec := { name := "fnEdited", fn := fun _ => fun
  | [d] => { results := [.lit (.bool true)], args := [d] }
  | _ => none }
def fnEditedRow : OpenClaim := { program := "ytndffcogddefiaa", sum := "32107f5f7ac91b4bb6dfdd83a7d852247e5238f213f0e41cd98940c4223e2bc6", func := "loop.example/g00376/laws.FnEdited", spec := "fnEdited", inPlace := ["slices.overlaps[loop.example/g00376/impl.Tree]"], unfollowed := true, recurses := true, apart := false }
def FnEditedSaid : Prop := fnEditedRow.holds Try.pinned (OpenSpec.ofChange fnEditedSpec)

/-- ITS FALSE NEIGHBOUR: 'it returns false'. Refute it at one input. -/
def fnEditedWrong : ChangeSpec := { name := "fnEdited", fn := fun _ => fun
  | [d] => { results := [.lit (.bool false)], args := [d] }
  | _ => none }
def FnEditedWrongFalsely : Prop := fnEditedRow.holds Try.pinned (OpenSpec.ofChange fnEditedWrong)

/-- 'laws.FnUndone': WHATEVER THE INPUT: true; the input reads as it did. -/
def fnUndoneSpec : ChangeSpec := { name := "fnUndone", fn := fun _ => fun
  | [d] => { results := [.lit (.bool true)], args := [d] }
  | _ => none }
def fnUndoneRow : OpenClaim := { program := "ytndffcogddefiaa", sum := "32107f5f7ac91b4bb6dfdd83a7d852247e5238f213f0e41cd98940c4223e2bc6", func := "loop.example/g00376/laws.FnUndone", spec := "fnUndone", inPlace := ["slices.overlaps[loop.example/g00376/impl.Tree]"], unfollowed := true, recurses := true, apart := false }
def FnUndoneSaid : Prop := fnUndoneRow.holds Try.pinned (OpenSpec.ofChange fnUndoneSpec)

/-- ITS FALSE NEIGHBOUR: 'it returns false'. Refute it at one input. -/
def fnUndoneWrong : ChangeSpec := { name := "fnUndone", fn := fun _ => fun
  | [d] => { results := [.lit (.bool false)], args := [d] }
  | _ => none }
def FnUndoneWrongFalsely : Prop := fnUndoneRow.holds Try.pinned (OpenSpec.ofChange fnUndoneWrong)

/-- 'laws.FnDiffed': WHATEVER THE INPUT: true; the input reads as it did. -/
def fnDiffedSpec : ChangeSpec := { name := "fnDiffed", fn := fun _ => fun
  | [d] => { results := [.lit (.bool true)], args := [d] }
  | _ => none }
def fnDiffedRow : OpenClaim := { program := "ytndffcogddefiaa", sum := "32107f5f7ac91b4bb6dfdd83a7d852247e5238f213f0e41cd98940c4223e2bc6", func := "loop.example/g00376/laws.FnDiffed", spec := "fnDiffed", inPlace := ["slices.overlaps[loop.example/g00376/impl.Tree]"], unfollowed := true, recurses := true, apart := false }
def FnDiffedSaid : Prop := fnDiffedRow.holds Try.pinned (OpenSpec.ofChange fnDiffedSpec)

/-- ITS FALSE NEIGHBOUR: 'it returns false'. Refute it at one input. -/
def fnDiffedWrong : ChangeSpec := { name := "fnDiffed", fn := fun _ => fun
  | [d] => { results := [.lit (.bool false)], args := [d] }
  | _ => none }
def FnDiffedWrongFalsely : Prop := fnDiffedRow.holds Try.pinned (OpenSpec.ofChange fnDiffedWrong)

/-- 'laws.FnEditPieces': WHATEVER THE INPUT: true; the input reads as it did. -/
def fnEditPiecesSpec : ChangeSpec := { name := "fnEditPieces", fn := fun _ => fun
  | [d] => { results := [.lit (.bool true)], args := [d] }
  | _ => none }
def fnEditPiecesRow : OpenClaim := { program := "ytndffcogddefiaa", sum := "32107f5f7ac91b4bb6dfdd83a7d852247e5238f213f0e41cd98940c4223e2bc6", func := "loop.example/g00376/laws.FnEditPieces", spec := "fnEditPieces", inPlace := ["slices.overlaps[loop.example/g00376/impl.Tree]"], unfollowed := true, recurses := true, apart := false }
def FnEditPiecesSaid : Prop := fnEditPiecesRow.holds Try.pinned (OpenSpec.ofChange fnEditPiecesSpec)

/-- ITS FALSE NEIGHBOUR: 'it returns false'. Refute it at one input. -/
def fnEditPiecesWrong : ChangeSpec := { name := "fnEditPieces", fn := fun _ => fun
  | [d] => { results := [.lit (.bool false)], args := [d] }
  | _ => none }
def FnEditPiecesWrongFalsely : Prop := fnEditPiecesRow.holds Try.pinned (OpenSpec.ofChange fnEditPiecesWrong)

/-- 'laws.FnSizes': WHATEVER THE INPUT: true; the input reads as it did. -/
def fnSizesSpec : ChangeSpec := { name := "fnSizes", fn := fun _ => fun
  | [d] => { results := [.lit (.bool true)], args := [d] }
  | _ => none }
def fnSizesRow : OpenClaim := { program := "ytndffcogddefiaa", sum := "32107f5f7ac91b4bb6dfdd83a7d852247e5238f213f0e41cd98940c4223e2bc6", func := "loop.example/g00376/laws.FnSizes", spec := "fnSizes", inPlace := ["slices.overlaps[loop.example/g00376/impl.Tree]"], unfollowed := true, recurses := true, apart := false }
def FnSizesSaid : Prop := fnSizesRow.holds Try.pinned (OpenSpec.ofChange fnSizesSpec)

/-- ITS FALSE NEIGHBOUR: 'it returns false'. Refute it at one input. -/
def fnSizesWrong : ChangeSpec := { name := "fnSizes", fn := fun _ => fun
  | [d] => { results := [.lit (.bool false)], args := [d] }
  | _ => none }
def FnSizesWrongFalsely : Prop := fnSizesRow.holds Try.pinned (OpenSpec.ofChange fnSizesWrong)

/- THE SECOND FORM. 'bulk': how many values and letters a reading holds, each counted each time it is reached (what is shared counts as often as it is met; a slice's spare places count too). A statement '..UptoSaid' is the law's where the arguments, and the package variables that the reading takes, are together of bulk at most 1048576: NARROWER than '..Said'. Prove '..Said' where nothing that the law and all that it calls make is longer than what came in: it says more and counts as full. Else prove '..UptoSaid'. A law counts once. -/
mutual
def uptoBulk {H : Type} : DataW H → Nat
  | .lit (.string bytes) => bytes.length + 1
  | .lit _ => 1
  | .nil => 1
  | .ptr d => uptoBulk d + 1
  | .slice elems spare => uptoBulkAll elems + uptoBulkAll spare + 1
  | .agg parts => uptoBulkAll parts + 1
  | .iface _ d => uptoBulk d + 1
  | .map entries => uptoBulkEntries entries + 1
  | .held _ => 1
def uptoBulkAll {H : Type} : List (DataW H) → Nat
  | [] => 0
  | d :: r => uptoBulk d + uptoBulkAll r
def uptoBulkEntries {H : Type} : List (Lit × DataW H) → Nat
  | [] => 0
  | x :: r => uptoBulkEntry x + uptoBulkEntries r
def uptoBulkEntry {H : Type} : Lit × DataW H → Nat
  | (.string bytes, d) => bytes.length + uptoBulk d + 1
  | (_, d) => uptoBulk d + 1
 end
def uptoSmall : (H : Type) → List (DataW H) → Bool := fun _ ds => decide (uptoBulkAll ds ≤ 1048576)
def OpenSpec.upto (s : _root_.Go.ChangeSpec) : _root_.Go.OpenSpec := { _root_.Go.OpenSpec.ofChange s with cond := some uptoSmall }

/-- 'laws.FnEdited', WHERE WHAT IT READS IS OF BULK AT MOST 1048576: true; the input reads as it did. -/
def fnEditedUptoRow : OpenClaim := { program := "ytndffcogddefiaa", sum := "32107f5f7ac91b4bb6dfdd83a7d852247e5238f213f0e41cd98940c4223e2bc6", func := "loop.example/g00376/laws.FnEdited", spec := "fnEdited", inPlace := ["slices.overlaps[loop.example/g00376/impl.Tree]"], unfollowed := true, recurses := true, apart := false, narrowed := true }
def FnEditedUptoSaid : Prop := fnEditedUptoRow.holds Try.pinned (OpenSpec.upto fnEditedSpec)

/-- 'laws.FnUndone', WHERE WHAT IT READS IS OF BULK AT MOST 1048576: true; the input reads as it did. -/
def fnUndoneUptoRow : OpenClaim := { program := "ytndffcogddefiaa", sum := "32107f5f7ac91b4bb6dfdd83a7d852247e5238f213f0e41cd98940c4223e2bc6", func := "loop.example/g00376/laws.FnUndone", spec := "fnUndone", inPlace := ["slices.overlaps[loop.example/g00376/impl.Tree]"], unfollowed := true, recurses := true, apart := false, narrowed := true }
def FnUndoneUptoSaid : Prop := fnUndoneUptoRow.holds Try.pinned (OpenSpec.upto fnUndoneSpec)

/-- 'laws.FnDiffed', WHERE WHAT IT READS IS OF BULK AT MOST 1048576: true; the input reads as it did. -/
def fnDiffedUptoRow : OpenClaim := { program := "ytndffcogddefiaa", sum := "32107f5f7ac91b4bb6dfdd83a7d852247e5238f213f0e41cd98940c4223e2bc6", func := "loop.example/g00376/laws.FnDiffed", spec := "fnDiffed", inPlace := ["slices.overlaps[loop.example/g00376/impl.Tree]"], unfollowed := true, recurses := true, apart := false, narrowed := true }
def FnDiffedUptoSaid : Prop := fnDiffedUptoRow.holds Try.pinned (OpenSpec.upto fnDiffedSpec)

/-- 'laws.FnEditPieces', WHERE WHAT IT READS IS OF BULK AT MOST 1048576: true; the input reads as it did. -/
def fnEditPiecesUptoRow : OpenClaim := { program := "ytndffcogddefiaa", sum := "32107f5f7ac91b4bb6dfdd83a7d852247e5238f213f0e41cd98940c4223e2bc6", func := "loop.example/g00376/laws.FnEditPieces", spec := "fnEditPieces", inPlace := ["slices.overlaps[loop.example/g00376/impl.Tree]"], unfollowed := true, recurses := true, apart := false, narrowed := true }
def FnEditPiecesUptoSaid : Prop := fnEditPiecesUptoRow.holds Try.pinned (OpenSpec.upto fnEditPiecesSpec)

/-- 'laws.FnSizes', WHERE WHAT IT READS IS OF BULK AT MOST 1048576: true; the input reads as it did. -/
def fnSizesUptoRow : OpenClaim := { program := "ytndffcogddefiaa", sum := "32107f5f7ac91b4bb6dfdd83a7d852247e5238f213f0e41cd98940c4223e2bc6", func := "loop.example/g00376/laws.FnSizes", spec := "fnSizes", inPlace := ["slices.overlaps[loop.example/g00376/impl.Tree]"], unfollowed := true, recurses := true, apart := false, narrowed := true }
def FnSizesUptoSaid : Prop := fnSizesUptoRow.holds Try.pinned (OpenSpec.upto fnSizesSpec)

end Rows
end Go.Proofs.Ytndffcogddefiaa
