/-
  DERIVED. GIVEN WITH THE SEED: THE CARDS: each row of YtdapgihghbmlfaaGreatDoorRows.lean that lists a variable, with what it lists TIED to the program's text (the seventh form; the later family's looks); each row that meets fmt, with fmt's text TOLD by the authors' own Lean function (tested against real Go, not proved from fmt's source: count such statements apart). THE CARD IS WHAT COUNTS. Prove the row's statement (the work); the ties are given (YtdapgihghbmlfaaGreatDoorTie.lean); close each card by the builder's one call (the guide's Derived/Test/ToyasCard.lean, 'card_holds'). Laid BY PROGRAM, IN A SANDBOX (cutbox-door.mjs). By AI agents, Wed Nov 11 2026. No macro, syntax, notation, axiom, sorry.
-/
import Derived.Test.YtdapgihghbmlfaaGreatDoorRows
import GoSem.ClaimSeven
namespace Go.Proofs.YtdapgihghbmlfaaGreatDoor
namespace Rows

/-- THE TIED CARD OF 'laws.FnProgTexts'. -/
def fnProgTextsCard : Claim7 := { stood := { row := fnProgTextsRow, standIns := [], harness := (true, "a7873524724598b94869754ff29ec07bba4312ca77ba3f8ce9aa557c6fe2dc20"), looks := true }, kinds := [], alts := [], laidByText := true, laidKinds := [.data, .data, .data, .sentinel, .sentinel, .data], laidTests := true, laidLooks := .later }
def FnProgTextsCardSaid : Prop := Claim7.holds Tryz.pinned (.plain (OpenSpec.ofChange fnProgTextsSpec)) fnProgTextsCard

/-- THE SECOND FORM's CARD OF 'laws.FnProgTexts'. -/
def fnProgTextsUptoCard : Claim7 := { stood := { row := fnProgTextsUptoRow, standIns := [], harness := (true, "a7873524724598b94869754ff29ec07bba4312ca77ba3f8ce9aa557c6fe2dc20"), looks := true }, kinds := [], alts := [], laidByText := true, laidKinds := [.data, .data, .data, .sentinel, .sentinel, .data], laidTests := true, laidLooks := .later }
def FnProgTextsUptoCardSaid : Prop := Claim7.holds Tryz.pinned (.plain (OpenSpec.upto fnProgTextsSpec)) fnProgTextsUptoCard
end Rows
end Go.Proofs.YtdapgihghbmlfaaGreatDoor
