/-
  No cell of these rows narrows 'for every input' (looked for: loops, veiled, ifaces, maps, wideKeys, modest, calm, conditions, laid).
  DERIVED. THE GIVEN ROWS OF THIS SEAT. 5 by the template 'for every input the law returns true; each argument reads behind the call as it read before'; 0 by the template 'total and deterministic' (their statements: YtoifcfllboeblaaGreatTotals.lean).
  GIVEN WITH THE SEED: the statements are not yours to turn. If you find one false, say at which input.
  Laid BY PROGRAM, IN A SANDBOX (cutbox-rows.mjs): the forced cells as the released guide's own fill.sh prints them over the translation d3180482eec7b82c… (all of the seat's roots in one cut). By AI agents, Wed Nov 11 2026. No macro, syntax, notation, axiom, sorry.
-/
import Derived.Test.YtoifcfllboeblaaGreatChecked
import GoSem.Claim
import GoSem.ClaimJoined
import GoSem.ClaimMapViews
import Derived.JoinedTies
import Derived.KernelRfl
namespace Go.Proofs.YtoifcfllboeblaaGreat
/- THE CELL 'sum', in the pinned program and in every row, IS THE sha256 OF THE DUMP (.gsa) THAT YtoifcfllboeblaaGreatProg.lean LOADS. Nothing in Lean hashes anything: it is a label: what it is worth is what the hold of that sum in a sandbox is worth. -/
noncomputable def Tryz.pinned : Pinned := { name := "ytoifcfllboeblaagreat", sum := "d3180482eec7b82c8eba8145b0be04296c8c728831aaeac3aab74e30e85cda57", checked := Tryz.checked }
namespace Rows
def none {H : Type} : Left H := { results := [], args := [] }

/-- 'laws.FnExactReached': WHATEVER THE INPUT: true; the input reads as it did. -/
def fnExactReachedSpec : ChangeSpec := { name := "fnExactReached", fn := fun _ => fun
  | [d] => { results := [.lit (.bool true)], args := [d] }
  | _ => none }
def fnExactReachedRow : OpenClaim := { program := "ytoifcfllboeblaagreat", sum := "d3180482eec7b82c8eba8145b0be04296c8c728831aaeac3aab74e30e85cda57", func := "loop.example/g00376/laws.FnExactReached", spec := "fnExactReached", unfollowed := true, recurses := true, apart := false }
def FnExactReachedSaid : Prop := fnExactReachedRow.holds Tryz.pinned (OpenSpec.ofChange fnExactReachedSpec)

/-- ITS FALSE NEIGHBOUR: 'it returns false'. Refute it at one input. -/
def fnExactReachedWrong : ChangeSpec := { name := "fnExactReached", fn := fun _ => fun
  | [d] => { results := [.lit (.bool false)], args := [d] }
  | _ => none }
def FnExactReachedWrongFalsely : Prop := fnExactReachedRow.holds Tryz.pinned (OpenSpec.ofChange fnExactReachedWrong)

/-- 'laws.FnExactCountsOf': WHATEVER THE INPUT: true; the input reads as it did. -/
def fnExactCountsOfSpec : ChangeSpec := { name := "fnExactCountsOf", fn := fun _ => fun
  | [d] => { results := [.lit (.bool true)], args := [d] }
  | _ => none }
def fnExactCountsOfRow : OpenClaim := { program := "ytoifcfllboeblaagreat", sum := "d3180482eec7b82c8eba8145b0be04296c8c728831aaeac3aab74e30e85cda57", func := "loop.example/g00376/laws.FnExactCountsOf", spec := "fnExactCountsOf", recurses := true, apart := false }
def FnExactCountsOfSaid : Prop := fnExactCountsOfRow.holds Tryz.pinned (OpenSpec.ofChange fnExactCountsOfSpec)

/-- ITS FALSE NEIGHBOUR: 'it returns false'. Refute it at one input. -/
def fnExactCountsOfWrong : ChangeSpec := { name := "fnExactCountsOf", fn := fun _ => fun
  | [d] => { results := [.lit (.bool false)], args := [d] }
  | _ => none }
def FnExactCountsOfWrongFalsely : Prop := fnExactCountsOfRow.holds Tryz.pinned (OpenSpec.ofChange fnExactCountsOfWrong)

/-- 'laws.FnExactCollected': WHATEVER THE INPUT: true; the input reads as it did. -/
def fnExactCollectedSpec : ChangeSpec := { name := "fnExactCollected", fn := fun _ => fun
  | [d] => { results := [.lit (.bool true)], args := [d] }
  | _ => none }
def fnExactCollectedRow : OpenClaim := { program := "ytoifcfllboeblaagreat", sum := "d3180482eec7b82c8eba8145b0be04296c8c728831aaeac3aab74e30e85cda57", func := "loop.example/g00376/laws.FnExactCollected", spec := "fnExactCollected", unfollowed := true, recurses := true, apart := false }
def FnExactCollectedSaid : Prop := fnExactCollectedRow.holds Tryz.pinned (OpenSpec.ofChange fnExactCollectedSpec)

/-- ITS FALSE NEIGHBOUR: 'it returns false'. Refute it at one input. -/
def fnExactCollectedWrong : ChangeSpec := { name := "fnExactCollected", fn := fun _ => fun
  | [d] => { results := [.lit (.bool false)], args := [d] }
  | _ => none }
def FnExactCollectedWrongFalsely : Prop := fnExactCollectedRow.holds Tryz.pinned (OpenSpec.ofChange fnExactCollectedWrong)

/-- 'laws.FnExactBelow': WHATEVER THE INPUT: true; the input reads as it did. -/
def fnExactBelowSpec : ChangeSpec := { name := "fnExactBelow", fn := fun _ => fun
  | [d1, d2] => { results := [.lit (.bool true)], args := [d1, d2] }
  | _ => none }
def fnExactBelowRow : OpenClaim := { program := "ytoifcfllboeblaagreat", sum := "d3180482eec7b82c8eba8145b0be04296c8c728831aaeac3aab74e30e85cda57", func := "loop.example/g00376/laws.FnExactBelow", spec := "fnExactBelow", unfollowed := true, recurses := true, apart := false }
def FnExactBelowSaid : Prop := fnExactBelowRow.holds Tryz.pinned (OpenSpec.ofChange fnExactBelowSpec)

/-- ITS FALSE NEIGHBOUR: 'it returns false'. Refute it at one input. -/
def fnExactBelowWrong : ChangeSpec := { name := "fnExactBelow", fn := fun _ => fun
  | [d1, d2] => { results := [.lit (.bool false)], args := [d1, d2] }
  | _ => none }
def FnExactBelowWrongFalsely : Prop := fnExactBelowRow.holds Tryz.pinned (OpenSpec.ofChange fnExactBelowWrong)

/-- 'laws.FnExactTrial': WHATEVER THE INPUT: true; the input reads as it did. -/
def fnExactTrialSpec : ChangeSpec := { name := "fnExactTrial", fn := fun _ => fun
  | [d1, d2] => { results := [.lit (.bool true)], args := [d1, d2] }
  | _ => none }
def fnExactTrialRow : OpenClaim := { program := "ytoifcfllboeblaagreat", sum := "d3180482eec7b82c8eba8145b0be04296c8c728831aaeac3aab74e30e85cda57", func := "loop.example/g00376/laws.FnExactTrial", spec := "fnExactTrial", unfollowed := true, recurses := true, apart := false }
def FnExactTrialSaid : Prop := fnExactTrialRow.holds Tryz.pinned (OpenSpec.ofChange fnExactTrialSpec)

/-- ITS FALSE NEIGHBOUR: 'it returns false'. Refute it at one input. -/
def fnExactTrialWrong : ChangeSpec := { name := "fnExactTrial", fn := fun _ => fun
  | [d1, d2] => { results := [.lit (.bool false)], args := [d1, d2] }
  | _ => none }
def FnExactTrialWrongFalsely : Prop := fnExactTrialRow.holds Tryz.pinned (OpenSpec.ofChange fnExactTrialWrong)

/- THE SECOND FORM. 'bulk': how many values and letters a reading holds, each counted each time it is reached (what is shared counts as often as it is met; a slice's spare places count too). A statement '..UptoSaid' is the law's where the arguments, and the package variables that the reading takes, are together of bulk at most 1048576: NARROWER than '..Said'. Prove '..Said' where nothing that the law and all that it calls make is longer than what came in: it says more and counts as full. Else prove '..UptoSaid'. A law counts once. -/
mutual
def uptoBulk {H : Type} : DataW H → Nat
  | .lit (.string bytes) => bytes.length + 1
  | .lit _ => 1
  | .nil => 1
  | .ptr d => uptoBulk d + 1
  | .slice elems spare => uptoBulkAll elems + uptoBulkAll spare + 1
  | .agg parts => uptoBulkAll parts + 1
  | .iface _ d => uptoBulk d + 1
  | .map entries => uptoBulkEntries entries + 1
  | .held _ => 1
def uptoBulkAll {H : Type} : List (DataW H) → Nat
  | [] => 0
  | d :: r => uptoBulk d + uptoBulkAll r
def uptoBulkEntries {H : Type} : List (Lit × DataW H) → Nat
  | [] => 0
  | x :: r => uptoBulkEntry x + uptoBulkEntries r
def uptoBulkEntry {H : Type} : Lit × DataW H → Nat
  | (.string bytes, d) => bytes.length + uptoBulk d + 1
  | (_, d) => uptoBulk d + 1
 end
def uptoSmall : (H : Type) → List (DataW H) → Bool := fun _ ds => decide (uptoBulkAll ds ≤ 1048576)
def OpenSpec.upto (s : _root_.Go.ChangeSpec) : _root_.Go.OpenSpec := { _root_.Go.OpenSpec.ofChange s with cond := some uptoSmall }

/-- 'laws.FnExactReached', WHERE WHAT IT READS IS OF BULK AT MOST 1048576: true; the input reads as it did. -/
def fnExactReachedUptoRow : OpenClaim := { program := "ytoifcfllboeblaagreat", sum := "d3180482eec7b82c8eba8145b0be04296c8c728831aaeac3aab74e30e85cda57", func := "loop.example/g00376/laws.FnExactReached", spec := "fnExactReached", unfollowed := true, recurses := true, apart := false, narrowed := true }
def FnExactReachedUptoSaid : Prop := fnExactReachedUptoRow.holds Tryz.pinned (OpenSpec.upto fnExactReachedSpec)

/-- 'laws.FnExactCountsOf', WHERE WHAT IT READS IS OF BULK AT MOST 1048576: true; the input reads as it did. -/
def fnExactCountsOfUptoRow : OpenClaim := { program := "ytoifcfllboeblaagreat", sum := "d3180482eec7b82c8eba8145b0be04296c8c728831aaeac3aab74e30e85cda57", func := "loop.example/g00376/laws.FnExactCountsOf", spec := "fnExactCountsOf", recurses := true, apart := false, narrowed := true }
def FnExactCountsOfUptoSaid : Prop := fnExactCountsOfUptoRow.holds Tryz.pinned (OpenSpec.upto fnExactCountsOfSpec)

/-- 'laws.FnExactCollected', WHERE WHAT IT READS IS OF BULK AT MOST 1048576: true; the input reads as it did. -/
def fnExactCollectedUptoRow : OpenClaim := { program := "ytoifcfllboeblaagreat", sum := "d3180482eec7b82c8eba8145b0be04296c8c728831aaeac3aab74e30e85cda57", func := "loop.example/g00376/laws.FnExactCollected", spec := "fnExactCollected", unfollowed := true, recurses := true, apart := false, narrowed := true }
def FnExactCollectedUptoSaid : Prop := fnExactCollectedUptoRow.holds Tryz.pinned (OpenSpec.upto fnExactCollectedSpec)

/-- 'laws.FnExactBelow', WHERE WHAT IT READS IS OF BULK AT MOST 1048576: true; the input reads as it did. -/
def fnExactBelowUptoRow : OpenClaim := { program := "ytoifcfllboeblaagreat", sum := "d3180482eec7b82c8eba8145b0be04296c8c728831aaeac3aab74e30e85cda57", func := "loop.example/g00376/laws.FnExactBelow", spec := "fnExactBelow", unfollowed := true, recurses := true, apart := false, narrowed := true }
def FnExactBelowUptoSaid : Prop := fnExactBelowUptoRow.holds Tryz.pinned (OpenSpec.upto fnExactBelowSpec)

/-- 'laws.FnExactTrial', WHERE WHAT IT READS IS OF BULK AT MOST 1048576: true; the input reads as it did. -/
def fnExactTrialUptoRow : OpenClaim := { program := "ytoifcfllboeblaagreat", sum := "d3180482eec7b82c8eba8145b0be04296c8c728831aaeac3aab74e30e85cda57", func := "loop.example/g00376/laws.FnExactTrial", spec := "fnExactTrial", unfollowed := true, recurses := true, apart := false, narrowed := true }
def FnExactTrialUptoSaid : Prop := fnExactTrialUptoRow.holds Tryz.pinned (OpenSpec.upto fnExactTrialSpec)

end Rows
end Go.Proofs.YtoifcfllboeblaaGreat
