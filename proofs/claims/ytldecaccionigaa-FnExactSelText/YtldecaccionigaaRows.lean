/-
  NARROWER THAN 'FOR EVERY INPUT', by the rows' own cells (each row's printed sentence says how): FnExactPathsOf: loops · FnExactAt: loops · FnExactMatches: loops · FnExactFindAll: loops.
  DERIVED. THE GIVEN ROWS OF THIS SEAT. 6 by the template 'for every input the law returns true; each argument reads behind the call as it read before'; 0 by the template 'total and deterministic' (their statements: YtldecaccionigaaTotals.lean).
  GIVEN WITH THE SEED: the statements are not yours to turn. If you find one false, say at which input.
  Laid BY PROGRAM, IN A SANDBOX (cutbox-rows.mjs): the forced cells as the released guide's own fill.sh prints them over the translation 9b45004009d1dce6… (all of the seat's roots in one cut). By AI agents, Wed Nov 11 2026. No macro, syntax, notation, axiom, sorry.
-/
import Derived.Test.YtldecaccionigaaChecked
import GoSem.Claim
import GoSem.ClaimJoined
import GoSem.ClaimMapViews
import Derived.JoinedTies
import Derived.KernelRfl
namespace Go.Proofs.Ytldecaccionigaa
/- THE CELL 'sum', in the pinned program and in every row, IS THE sha256 OF THE DUMP (.gsa) THAT YtldecaccionigaaProg.lean LOADS. Nothing in Lean hashes anything: it is a label: what it is worth is what the hold of that sum in a sandbox is worth. -/
noncomputable def Try.pinned : Pinned := { name := "ytldecaccionigaa", sum := "9b45004009d1dce6c78aac76f9ba8fec1c443a74eed6026e529e8c2e0ab48779", checked := Try.checked }
namespace Rows
def none {H : Type} : Left H := { results := [], args := [] }

/-- 'laws.FnExactSelOk': WHATEVER THE INPUT: true; the input reads as it did. -/
def fnExactSelOkSpec : ChangeSpec := { name := "fnExactSelOk", fn := fun _ => fun
  | [d] => { results := [.lit (.bool true)], args := [d] }
  | _ => none }
def fnExactSelOkRow : OpenClaim := { program := "ytldecaccionigaa", sum := "9b45004009d1dce6c78aac76f9ba8fec1c443a74eed6026e529e8c2e0ab48779", func := "loop.example/g00376/laws.FnExactSelOk", spec := "fnExactSelOk", apart := false }
def FnExactSelOkSaid : Prop := fnExactSelOkRow.holds Try.pinned (OpenSpec.ofChange fnExactSelOkSpec)

/-- ITS FALSE NEIGHBOUR: 'it returns false'. Refute it at one input. -/
def fnExactSelOkWrong : ChangeSpec := { name := "fnExactSelOk", fn := fun _ => fun
  | [d] => { results := [.lit (.bool false)], args := [d] }
  | _ => none }
def FnExactSelOkWrongFalsely : Prop := fnExactSelOkRow.holds Try.pinned (OpenSpec.ofChange fnExactSelOkWrong)

/-- 'laws.FnExactSelText': WHATEVER THE INPUT: true; the input reads as it did. -/
def fnExactSelTextSpec : ChangeSpec := { name := "fnExactSelText", fn := fun _ => fun
  | [d] => { results := [.lit (.bool true)], args := [d] }
  | _ => none }
def fnExactSelTextRow : OpenClaim := { program := "ytldecaccionigaa", sum := "9b45004009d1dce6c78aac76f9ba8fec1c443a74eed6026e529e8c2e0ab48779", func := "loop.example/g00376/laws.FnExactSelText", spec := "fnExactSelText", inPlace := ["internal/abi.NoEscape", "internal/bytealg.MakeNoZero"], apart := false }
def FnExactSelTextSaid : Prop := fnExactSelTextRow.holds Try.pinned (OpenSpec.ofChange fnExactSelTextSpec)

/-- ITS FALSE NEIGHBOUR: 'it returns false'. Refute it at one input. -/
def fnExactSelTextWrong : ChangeSpec := { name := "fnExactSelText", fn := fun _ => fun
  | [d] => { results := [.lit (.bool false)], args := [d] }
  | _ => none }
def FnExactSelTextWrongFalsely : Prop := fnExactSelTextRow.holds Try.pinned (OpenSpec.ofChange fnExactSelTextWrong)

/-- 'laws.FnExactPathsOf': WHATEVER THE INPUT: true; the input reads as it did. -/
def fnExactPathsOfSpec : ChangeSpec := { name := "fnExactPathsOf", fn := fun _ => fun
  | [d] => { results := [.lit (.bool true)], args := [d] }
  | _ => none }
def fnExactPathsOfRow : OpenClaim := { program := "ytldecaccionigaa", sum := "9b45004009d1dce6c78aac76f9ba8fec1c443a74eed6026e529e8c2e0ab48779", func := "loop.example/g00376/laws.FnExactPathsOf", spec := "fnExactPathsOf", recurses := true, loops := true, apart := false }
def FnExactPathsOfSaid : Prop := fnExactPathsOfRow.holds Try.pinned (OpenSpec.ofChange fnExactPathsOfSpec)

/-- ITS FALSE NEIGHBOUR: 'it returns false'. Refute it at one input. -/
def fnExactPathsOfWrong : ChangeSpec := { name := "fnExactPathsOf", fn := fun _ => fun
  | [d] => { results := [.lit (.bool false)], args := [d] }
  | _ => none }
def FnExactPathsOfWrongFalsely : Prop := fnExactPathsOfRow.holds Try.pinned (OpenSpec.ofChange fnExactPathsOfWrong)

/-- 'laws.FnExactAt': WHATEVER THE INPUT: true; the input reads as it did. -/
def fnExactAtSpec : ChangeSpec := { name := "fnExactAt", fn := fun _ => fun
  | [d1, d2] => { results := [.lit (.bool true)], args := [d1, d2] }
  | _ => none }
def fnExactAtRow : OpenClaim := { program := "ytldecaccionigaa", sum := "9b45004009d1dce6c78aac76f9ba8fec1c443a74eed6026e529e8c2e0ab48779", func := "loop.example/g00376/laws.FnExactAt", spec := "fnExactAt", recurses := true, loops := true, apart := false }
def FnExactAtSaid : Prop := fnExactAtRow.holds Try.pinned (OpenSpec.ofChange fnExactAtSpec)

/-- ITS FALSE NEIGHBOUR: 'it returns false'. Refute it at one input. -/
def fnExactAtWrong : ChangeSpec := { name := "fnExactAt", fn := fun _ => fun
  | [d1, d2] => { results := [.lit (.bool false)], args := [d1, d2] }
  | _ => none }
def FnExactAtWrongFalsely : Prop := fnExactAtRow.holds Try.pinned (OpenSpec.ofChange fnExactAtWrong)

/-- 'laws.FnExactMatches': WHATEVER THE INPUT: true; the input reads as it did. -/
def fnExactMatchesSpec : ChangeSpec := { name := "fnExactMatches", fn := fun _ => fun
  | [d1, d2, d3] => { results := [.lit (.bool true)], args := [d1, d2, d3] }
  | _ => none }
def fnExactMatchesRow : OpenClaim := { program := "ytldecaccionigaa", sum := "9b45004009d1dce6c78aac76f9ba8fec1c443a74eed6026e529e8c2e0ab48779", func := "loop.example/g00376/laws.FnExactMatches", spec := "fnExactMatches", unfollowed := true, recurses := true, loops := true, apart := false }
def FnExactMatchesSaid : Prop := fnExactMatchesRow.holds Try.pinned (OpenSpec.ofChange fnExactMatchesSpec)

/-- ITS FALSE NEIGHBOUR: 'it returns false'. Refute it at one input. -/
def fnExactMatchesWrong : ChangeSpec := { name := "fnExactMatches", fn := fun _ => fun
  | [d1, d2, d3] => { results := [.lit (.bool false)], args := [d1, d2, d3] }
  | _ => none }
def FnExactMatchesWrongFalsely : Prop := fnExactMatchesRow.holds Try.pinned (OpenSpec.ofChange fnExactMatchesWrong)

/-- 'laws.FnExactFindAll': WHATEVER THE INPUT: true; the input reads as it did. -/
def fnExactFindAllSpec : ChangeSpec := { name := "fnExactFindAll", fn := fun _ => fun
  | [d1, d2] => { results := [.lit (.bool true)], args := [d1, d2] }
  | _ => none }
def fnExactFindAllRow : OpenClaim := { program := "ytldecaccionigaa", sum := "9b45004009d1dce6c78aac76f9ba8fec1c443a74eed6026e529e8c2e0ab48779", func := "loop.example/g00376/laws.FnExactFindAll", spec := "fnExactFindAll", unfollowed := true, recurses := true, loops := true, apart := false }
def FnExactFindAllSaid : Prop := fnExactFindAllRow.holds Try.pinned (OpenSpec.ofChange fnExactFindAllSpec)

/-- ITS FALSE NEIGHBOUR: 'it returns false'. Refute it at one input. -/
def fnExactFindAllWrong : ChangeSpec := { name := "fnExactFindAll", fn := fun _ => fun
  | [d1, d2] => { results := [.lit (.bool false)], args := [d1, d2] }
  | _ => none }
def FnExactFindAllWrongFalsely : Prop := fnExactFindAllRow.holds Try.pinned (OpenSpec.ofChange fnExactFindAllWrong)

/- THE SECOND FORM. 'bulk': how many values and letters a reading holds, each counted each time it is reached (what is shared counts as often as it is met; a slice's spare places count too). A statement '..UptoSaid' is the law's where the arguments, and the package variables that the reading takes, are together of bulk at most 1048576: NARROWER than '..Said'. Prove '..Said' where nothing that the law and all that it calls make is longer than what came in: it says more and counts as full. Else prove '..UptoSaid'. A law counts once. -/
mutual
def uptoBulk {H : Type} : DataW H → Nat
  | .lit (.string bytes) => bytes.length + 1
  | .lit _ => 1
  | .nil => 1
  | .ptr d => uptoBulk d + 1
  | .slice elems spare => uptoBulkAll elems + uptoBulkAll spare + 1
  | .agg parts => uptoBulkAll parts + 1
  | .iface _ d => uptoBulk d + 1
  | .map entries => uptoBulkEntries entries + 1
  | .held _ => 1
def uptoBulkAll {H : Type} : List (DataW H) → Nat
  | [] => 0
  | d :: r => uptoBulk d + uptoBulkAll r
def uptoBulkEntries {H : Type} : List (Lit × DataW H) → Nat
  | [] => 0
  | x :: r => uptoBulkEntry x + uptoBulkEntries r
def uptoBulkEntry {H : Type} : Lit × DataW H → Nat
  | (.string bytes, d) => bytes.length + uptoBulk d + 1
  | (_, d) => uptoBulk d + 1
 end
def uptoSmall : (H : Type) → List (DataW H) → Bool := fun _ ds => decide (uptoBulkAll ds ≤ 1048576)
def OpenSpec.upto (s : _root_.Go.ChangeSpec) : _root_.Go.OpenSpec := { _root_.Go.OpenSpec.ofChange s with cond := some uptoSmall }

/-- 'laws.FnExactSelOk', WHERE WHAT IT READS IS OF BULK AT MOST 1048576: true; the input reads as it did. -/
def fnExactSelOkUptoRow : OpenClaim := { program := "ytldecaccionigaa", sum := "9b45004009d1dce6c78aac76f9ba8fec1c443a74eed6026e529e8c2e0ab48779", func := "loop.example/g00376/laws.FnExactSelOk", spec := "fnExactSelOk", apart := false, narrowed := true }
def FnExactSelOkUptoSaid : Prop := fnExactSelOkUptoRow.holds Try.pinned (OpenSpec.upto fnExactSelOkSpec)

/-- 'laws.FnExactSelText', WHERE WHAT IT READS IS OF BULK AT MOST 1048576: true; the input reads as it did. -/
def fnExactSelTextUptoRow : OpenClaim := { program := "ytldecaccionigaa", sum := "9b45004009d1dce6c78aac76f9ba8fec1c443a74eed6026e529e8c2e0ab48779", func := "loop.example/g00376/laws.FnExactSelText", spec := "fnExactSelText", inPlace := ["internal/abi.NoEscape", "internal/bytealg.MakeNoZero"], apart := false, narrowed := true }
def FnExactSelTextUptoSaid : Prop := fnExactSelTextUptoRow.holds Try.pinned (OpenSpec.upto fnExactSelTextSpec)

/-- 'laws.FnExactPathsOf', WHERE WHAT IT READS IS OF BULK AT MOST 1048576: true; the input reads as it did. -/
def fnExactPathsOfUptoRow : OpenClaim := { program := "ytldecaccionigaa", sum := "9b45004009d1dce6c78aac76f9ba8fec1c443a74eed6026e529e8c2e0ab48779", func := "loop.example/g00376/laws.FnExactPathsOf", spec := "fnExactPathsOf", recurses := true, loops := true, apart := false, narrowed := true }
def FnExactPathsOfUptoSaid : Prop := fnExactPathsOfUptoRow.holds Try.pinned (OpenSpec.upto fnExactPathsOfSpec)

/-- 'laws.FnExactAt', WHERE WHAT IT READS IS OF BULK AT MOST 1048576: true; the input reads as it did. -/
def fnExactAtUptoRow : OpenClaim := { program := "ytldecaccionigaa", sum := "9b45004009d1dce6c78aac76f9ba8fec1c443a74eed6026e529e8c2e0ab48779", func := "loop.example/g00376/laws.FnExactAt", spec := "fnExactAt", recurses := true, loops := true, apart := false, narrowed := true }
def FnExactAtUptoSaid : Prop := fnExactAtUptoRow.holds Try.pinned (OpenSpec.upto fnExactAtSpec)

/-- 'laws.FnExactMatches', WHERE WHAT IT READS IS OF BULK AT MOST 1048576: true; the input reads as it did. -/
def fnExactMatchesUptoRow : OpenClaim := { program := "ytldecaccionigaa", sum := "9b45004009d1dce6c78aac76f9ba8fec1c443a74eed6026e529e8c2e0ab48779", func := "loop.example/g00376/laws.FnExactMatches", spec := "fnExactMatches", unfollowed := true, recurses := true, loops := true, apart := false, narrowed := true }
def FnExactMatchesUptoSaid : Prop := fnExactMatchesUptoRow.holds Try.pinned (OpenSpec.upto fnExactMatchesSpec)

/-- 'laws.FnExactFindAll', WHERE WHAT IT READS IS OF BULK AT MOST 1048576: true; the input reads as it did. -/
def fnExactFindAllUptoRow : OpenClaim := { program := "ytldecaccionigaa", sum := "9b45004009d1dce6c78aac76f9ba8fec1c443a74eed6026e529e8c2e0ab48779", func := "loop.example/g00376/laws.FnExactFindAll", spec := "fnExactFindAll", unfollowed := true, recurses := true, loops := true, apart := false, narrowed := true }
def FnExactFindAllUptoSaid : Prop := fnExactFindAllUptoRow.holds Try.pinned (OpenSpec.upto fnExactFindAllSpec)

end Rows
end Go.Proofs.Ytldecaccionigaa
