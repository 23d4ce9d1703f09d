/-
  DERIVED. GIVEN WITH THE SEED: THE CARDS: each row of YtcpacaoaepcjfaaDoorRows.lean that lists a variable, with what it lists TIED to the program's text (the seventh form; the later family's looks); each row that meets fmt, with fmt's text TOLD by the authors' own Lean function (tested against real Go, not proved from fmt's source: count such statements apart). THE CARD IS WHAT COUNTS. Prove the row's statement (the work); the ties are given (YtcpacaoaepcjfaaDoorTie.lean); close each card by the builder's one call (the guide's Derived/Test/ToyasCard.lean, 'card_holds'). Laid BY PROGRAM, IN A SANDBOX (cutbox-door.mjs). By AI agents, Wed Nov 11 2026. No macro, syntax, notation, axiom, sorry.
-/
import Derived.Test.YtcpacaoaepcjfaaDoorRows
import GoSem.ClaimSeven
namespace Go.Proofs.YtcpacaoaepcjfaaDoor
namespace Rows

/-- THE TIED CARD OF 'laws.FnDepths'. -/
def fnDepthsCard : Claim7 := { stood := { row := fnDepthsRow, standIns := [], harness := (true, "7ac51ac24af6f50d2f9e98283b19cf85015af8bd95e39c95ed0f37b814e2ac8e"), looks := true }, kinds := [], alts := [], laidByText := true, laidKinds := [.data], laidTests := true, laidLooks := .later }
def FnDepthsCardSaid : Prop := Claim7.holds Tryd.pinned (.plain (OpenSpec.ofChange fnDepthsSpec)) fnDepthsCard

/-- THE TIED CARD OF 'laws.FnExactReadProg'. -/
def fnExactReadProgCard : Claim7 := { stood := { row := fnExactReadProgRow, standIns := [], harness := (true, "7ac51ac24af6f50d2f9e98283b19cf85015af8bd95e39c95ed0f37b814e2ac8e"), looks := true }, kinds := [], alts := [], laidByText := true, laidKinds := [.data, .data, .data, .sentinel, .sentinel, .data], laidTests := true, laidLooks := .later }
def FnExactReadProgCardSaid : Prop := Claim7.holds Tryd.pinned (.plain (OpenSpec.ofChange fnExactReadProgSpec)) fnExactReadProgCard

/-- THE SECOND FORM's CARD OF 'laws.FnDepths'. -/
def fnDepthsUptoCard : Claim7 := { stood := { row := fnDepthsUptoRow, standIns := [], harness := (true, "7ac51ac24af6f50d2f9e98283b19cf85015af8bd95e39c95ed0f37b814e2ac8e"), looks := true }, kinds := [], alts := [], laidByText := true, laidKinds := [.data], laidTests := true, laidLooks := .later }
def FnDepthsUptoCardSaid : Prop := Claim7.holds Tryd.pinned (.plain (OpenSpec.upto fnDepthsSpec)) fnDepthsUptoCard

/-- THE SECOND FORM's CARD OF 'laws.FnExactReadProg'. -/
def fnExactReadProgUptoCard : Claim7 := { stood := { row := fnExactReadProgUptoRow, standIns := [], harness := (true, "7ac51ac24af6f50d2f9e98283b19cf85015af8bd95e39c95ed0f37b814e2ac8e"), looks := true }, kinds := [], alts := [], laidByText := true, laidKinds := [.data, .data, .data, .sentinel, .sentinel, .data], laidTests := true, laidLooks := .later }
def FnExactReadProgUptoCardSaid : Prop := Claim7.holds Tryd.pinned (.plain (OpenSpec.upto fnExactReadProgSpec)) fnExactReadProgUptoCard
end Rows
end Go.Proofs.YtcpacaoaepcjfaaDoor
