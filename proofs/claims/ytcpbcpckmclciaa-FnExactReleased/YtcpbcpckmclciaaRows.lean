/-
  No cell of these rows narrows 'for every input' (looked for: loops, veiled, ifaces, maps, wideKeys, modest, calm, conditions, laid).
  DERIVED. THE GIVEN ROWS OF THIS SEAT. 6 by the template 'for every input the law returns true; each argument reads behind the call as it read before'; 0 by the template 'total and deterministic' (their statements: YtcpbcpckmclciaaTotals.lean).
  GIVEN WITH THE SEED: the statements are not yours to turn. If you find one false, say at which input.
  Laid BY PROGRAM, IN A SANDBOX (cutbox-rows.mjs): the forced cells as the released guide's own fill.sh prints them over the translation 5b49ace803cd430e… (all of the seat's roots in one cut). By AI agents, Wed Nov 11 2026. No macro, syntax, notation, axiom, sorry.
-/
import Derived.Test.YtcpbcpckmclciaaChecked
import GoSem.Claim
import GoSem.ClaimJoined
import GoSem.ClaimMapViews
import Derived.JoinedTies
import Derived.KernelRfl
namespace Go.Proofs.Ytcpbcpckmclciaa
/- THE CELL 'sum', in the pinned program and in every row, IS THE sha256 OF THE DUMP (.gsa) THAT YtcpbcpckmclciaaProg.lean LOADS. Nothing in Lean hashes anything: it is a label: what it is worth is what the hold of that sum in a sandbox is worth. -/
noncomputable def Try.pinned : Pinned := { name := "ytcpbcpckmclciaa", sum := "5b49ace803cd430e1c90b650227f76c641fa984668fd7c4a53a6c869654c30ab", checked := Try.checked }
namespace Rows
def none {H : Type} : Left H := { results := [], args := [] }

/-- 'laws.FnExactArenaOk': WHATEVER THE INPUT: true; the input reads as it did. -/
def fnExactArenaOkSpec : ChangeSpec := { name := "fnExactArenaOk", fn := fun _ => fun
  | [d] => { results := [.lit (.bool true)], args := [d] }
  | _ => none }
def fnExactArenaOkRow : OpenClaim := { program := "ytcpbcpckmclciaa", sum := "5b49ace803cd430e1c90b650227f76c641fa984668fd7c4a53a6c869654c30ab", func := "loop.example/g00376/laws.FnExactArenaOk", spec := "fnExactArenaOk", apart := false }
def FnExactArenaOkSaid : Prop := fnExactArenaOkRow.holds Try.pinned (OpenSpec.ofChange fnExactArenaOkSpec)

/-- ITS FALSE NEIGHBOUR: 'it returns false'. Refute it at one input. -/
def fnExactArenaOkWrong : ChangeSpec := { name := "fnExactArenaOk", fn := fun _ => fun
  | [d] => { results := [.lit (.bool false)], args := [d] }
  | _ => none }
def FnExactArenaOkWrongFalsely : Prop := fnExactArenaOkRow.holds Try.pinned (OpenSpec.ofChange fnExactArenaOkWrong)

/-- 'laws.FnExactArenaNew': WHATEVER THE INPUT: true; the input reads as it did. -/
def fnExactArenaNewSpec : ChangeSpec := { name := "fnExactArenaNew", fn := fun _ => fun
  | [d] => { results := [.lit (.bool true)], args := [d] }
  | _ => none }
def fnExactArenaNewRow : OpenClaim := { program := "ytcpbcpckmclciaa", sum := "5b49ace803cd430e1c90b650227f76c641fa984668fd7c4a53a6c869654c30ab", func := "loop.example/g00376/laws.FnExactArenaNew", spec := "fnExactArenaNew", apart := false }
def FnExactArenaNewSaid : Prop := fnExactArenaNewRow.holds Try.pinned (OpenSpec.ofChange fnExactArenaNewSpec)

/-- ITS FALSE NEIGHBOUR: 'it returns false'. Refute it at one input. -/
def fnExactArenaNewWrong : ChangeSpec := { name := "fnExactArenaNew", fn := fun _ => fun
  | [d] => { results := [.lit (.bool false)], args := [d] }
  | _ => none }
def FnExactArenaNewWrongFalsely : Prop := fnExactArenaNewRow.holds Try.pinned (OpenSpec.ofChange fnExactArenaNewWrong)

/-- 'laws.FnExactAllocated': WHATEVER THE INPUT: true; the input reads as it did. -/
def fnExactAllocatedSpec : ChangeSpec := { name := "fnExactAllocated", fn := fun _ => fun
  | [d1, d2] => { results := [.lit (.bool true)], args := [d1, d2] }
  | _ => none }
def fnExactAllocatedRow : OpenClaim := { program := "ytcpbcpckmclciaa", sum := "5b49ace803cd430e1c90b650227f76c641fa984668fd7c4a53a6c869654c30ab", func := "loop.example/g00376/laws.FnExactAllocated", spec := "fnExactAllocated", apart := false }
def FnExactAllocatedSaid : Prop := fnExactAllocatedRow.holds Try.pinned (OpenSpec.ofChange fnExactAllocatedSpec)

/-- ITS FALSE NEIGHBOUR: 'it returns false'. Refute it at one input. -/
def fnExactAllocatedWrong : ChangeSpec := { name := "fnExactAllocated", fn := fun _ => fun
  | [d1, d2] => { results := [.lit (.bool false)], args := [d1, d2] }
  | _ => none }
def FnExactAllocatedWrongFalsely : Prop := fnExactAllocatedRow.holds Try.pinned (OpenSpec.ofChange fnExactAllocatedWrong)

/-- 'laws.FnExactReleased': WHATEVER THE INPUT: true; the input reads as it did. -/
def fnExactReleasedSpec : ChangeSpec := { name := "fnExactReleased", fn := fun _ => fun
  | [d1, d2] => { results := [.lit (.bool true)], args := [d1, d2] }
  | _ => none }
def fnExactReleasedRow : OpenClaim := { program := "ytcpbcpckmclciaa", sum := "5b49ace803cd430e1c90b650227f76c641fa984668fd7c4a53a6c869654c30ab", func := "loop.example/g00376/laws.FnExactReleased", spec := "fnExactReleased", inPlace := ["slices.overlaps[int64]"], apart := false }
def FnExactReleasedSaid : Prop := fnExactReleasedRow.holds Try.pinned (OpenSpec.ofChange fnExactReleasedSpec)

/-- ITS FALSE NEIGHBOUR: 'it returns false'. Refute it at one input. -/
def fnExactReleasedWrong : ChangeSpec := { name := "fnExactReleased", fn := fun _ => fun
  | [d1, d2] => { results := [.lit (.bool false)], args := [d1, d2] }
  | _ => none }
def FnExactReleasedWrongFalsely : Prop := fnExactReleasedRow.holds Try.pinned (OpenSpec.ofChange fnExactReleasedWrong)

/-- 'laws.FnExactDeref': WHATEVER THE INPUT: true; the input reads as it did. -/
def fnExactDerefSpec : ChangeSpec := { name := "fnExactDeref", fn := fun _ => fun
  | [d1, d2] => { results := [.lit (.bool true)], args := [d1, d2] }
  | _ => none }
def fnExactDerefRow : OpenClaim := { program := "ytcpbcpckmclciaa", sum := "5b49ace803cd430e1c90b650227f76c641fa984668fd7c4a53a6c869654c30ab", func := "loop.example/g00376/laws.FnExactDeref", spec := "fnExactDeref", apart := false }
def FnExactDerefSaid : Prop := fnExactDerefRow.holds Try.pinned (OpenSpec.ofChange fnExactDerefSpec)

/-- ITS FALSE NEIGHBOUR: 'it returns false'. Refute it at one input. -/
def fnExactDerefWrong : ChangeSpec := { name := "fnExactDeref", fn := fun _ => fun
  | [d1, d2] => { results := [.lit (.bool false)], args := [d1, d2] }
  | _ => none }
def FnExactDerefWrongFalsely : Prop := fnExactDerefRow.holds Try.pinned (OpenSpec.ofChange fnExactDerefWrong)

/-- 'laws.FnExactStored': WHATEVER THE INPUT: true; the input reads as it did. -/
def fnExactStoredSpec : ChangeSpec := { name := "fnExactStored", fn := fun _ => fun
  | [d1, d2, d3] => { results := [.lit (.bool true)], args := [d1, d2, d3] }
  | _ => none }
def fnExactStoredRow : OpenClaim := { program := "ytcpbcpckmclciaa", sum := "5b49ace803cd430e1c90b650227f76c641fa984668fd7c4a53a6c869654c30ab", func := "loop.example/g00376/laws.FnExactStored", spec := "fnExactStored", apart := false }
def FnExactStoredSaid : Prop := fnExactStoredRow.holds Try.pinned (OpenSpec.ofChange fnExactStoredSpec)

/-- ITS FALSE NEIGHBOUR: 'it returns false'. Refute it at one input. -/
def fnExactStoredWrong : ChangeSpec := { name := "fnExactStored", fn := fun _ => fun
  | [d1, d2, d3] => { results := [.lit (.bool false)], args := [d1, d2, d3] }
  | _ => none }
def FnExactStoredWrongFalsely : Prop := fnExactStoredRow.holds Try.pinned (OpenSpec.ofChange fnExactStoredWrong)

/- THE SECOND FORM. 'bulk': how many values and letters a reading holds, each counted each time it is reached (what is shared counts as often as it is met; a slice's spare places count too). A statement '..UptoSaid' is the law's where the arguments, and the package variables that the reading takes, are together of bulk at most 1048576: NARROWER than '..Said'. Prove '..Said' where nothing that the law and all that it calls make is longer than what came in: it says more and counts as full. Else prove '..UptoSaid'. A law counts once. -/
mutual
def uptoBulk {H : Type} : DataW H → Nat
  | .lit (.string bytes) => bytes.length + 1
  | .lit _ => 1
  | .nil => 1
  | .ptr d => uptoBulk d + 1
  | .slice elems spare => uptoBulkAll elems + uptoBulkAll spare + 1
  | .agg parts => uptoBulkAll parts + 1
  | .iface _ d => uptoBulk d + 1
  | .map entries => uptoBulkEntries entries + 1
  | .held _ => 1
def uptoBulkAll {H : Type} : List (DataW H) → Nat
  | [] => 0
  | d :: r => uptoBulk d + uptoBulkAll r
def uptoBulkEntries {H : Type} : List (Lit × DataW H) → Nat
  | [] => 0
  | x :: r => uptoBulkEntry x + uptoBulkEntries r
def uptoBulkEntry {H : Type} : Lit × DataW H → Nat
  | (.string bytes, d) => bytes.length + uptoBulk d + 1
  | (_, d) => uptoBulk d + 1
 end
def uptoSmall : (H : Type) → List (DataW H) → Bool := fun _ ds => decide (uptoBulkAll ds ≤ 1048576)
def OpenSpec.upto (s : _root_.Go.ChangeSpec) : _root_.Go.OpenSpec := { _root_.Go.OpenSpec.ofChange s with cond := some uptoSmall }

/-- 'laws.FnExactArenaOk', WHERE WHAT IT READS IS OF BULK AT MOST 1048576: true; the input reads as it did. -/
def fnExactArenaOkUptoRow : OpenClaim := { program := "ytcpbcpckmclciaa", sum := "5b49ace803cd430e1c90b650227f76c641fa984668fd7c4a53a6c869654c30ab", func := "loop.example/g00376/laws.FnExactArenaOk", spec := "fnExactArenaOk", apart := false, narrowed := true }
def FnExactArenaOkUptoSaid : Prop := fnExactArenaOkUptoRow.holds Try.pinned (OpenSpec.upto fnExactArenaOkSpec)

/-- 'laws.FnExactArenaNew', WHERE WHAT IT READS IS OF BULK AT MOST 1048576: true; the input reads as it did. -/
def fnExactArenaNewUptoRow : OpenClaim := { program := "ytcpbcpckmclciaa", sum := "5b49ace803cd430e1c90b650227f76c641fa984668fd7c4a53a6c869654c30ab", func := "loop.example/g00376/laws.FnExactArenaNew", spec := "fnExactArenaNew", apart := false, narrowed := true }
def FnExactArenaNewUptoSaid : Prop := fnExactArenaNewUptoRow.holds Try.pinned (OpenSpec.upto fnExactArenaNewSpec)

/-- 'laws.FnExactAllocated', WHERE WHAT IT READS IS OF BULK AT MOST 1048576: true; the input reads as it did. -/
def fnExactAllocatedUptoRow : OpenClaim := { program := "ytcpbcpckmclciaa", sum := "5b49ace803cd430e1c90b650227f76c641fa984668fd7c4a53a6c869654c30ab", func := "loop.example/g00376/laws.FnExactAllocated", spec := "fnExactAllocated", apart := false, narrowed := true }
def FnExactAllocatedUptoSaid : Prop := fnExactAllocatedUptoRow.holds Try.pinned (OpenSpec.upto fnExactAllocatedSpec)

/-- 'laws.FnExactReleased', WHERE WHAT IT READS IS OF BULK AT MOST 1048576: true; the input reads as it did. -/
def fnExactReleasedUptoRow : OpenClaim := { program := "ytcpbcpckmclciaa", sum := "5b49ace803cd430e1c90b650227f76c641fa984668fd7c4a53a6c869654c30ab", func := "loop.example/g00376/laws.FnExactReleased", spec := "fnExactReleased", inPlace := ["slices.overlaps[int64]"], apart := false, narrowed := true }
def FnExactReleasedUptoSaid : Prop := fnExactReleasedUptoRow.holds Try.pinned (OpenSpec.upto fnExactReleasedSpec)

/-- 'laws.FnExactDeref', WHERE WHAT IT READS IS OF BULK AT MOST 1048576: true; the input reads as it did. -/
def fnExactDerefUptoRow : OpenClaim := { program := "ytcpbcpckmclciaa", sum := "5b49ace803cd430e1c90b650227f76c641fa984668fd7c4a53a6c869654c30ab", func := "loop.example/g00376/laws.FnExactDeref", spec := "fnExactDeref", apart := false, narrowed := true }
def FnExactDerefUptoSaid : Prop := fnExactDerefUptoRow.holds Try.pinned (OpenSpec.upto fnExactDerefSpec)

/-- 'laws.FnExactStored', WHERE WHAT IT READS IS OF BULK AT MOST 1048576: true; the input reads as it did. -/
def fnExactStoredUptoRow : OpenClaim := { program := "ytcpbcpckmclciaa", sum := "5b49ace803cd430e1c90b650227f76c641fa984668fd7c4a53a6c869654c30ab", func := "loop.example/g00376/laws.FnExactStored", spec := "fnExactStored", apart := false, narrowed := true }
def FnExactStoredUptoSaid : Prop := fnExactStoredUptoRow.holds Try.pinned (OpenSpec.upto fnExactStoredSpec)

end Rows
end Go.Proofs.Ytcpbcpckmclciaa
