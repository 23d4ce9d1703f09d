/-
  DERIVED. GIVEN WITH THE SEED: THE CARDS: each row of YthcecgdhpondfaaDoorRows.lean that lists a variable, with what it lists TIED to the program's text (the seventh form; the later family's looks); each row that meets fmt, with fmt's text TOLD by the authors' own Lean function (tested against real Go, not proved from fmt's source: count such statements apart). THE CARD IS WHAT COUNTS. Prove the row's statement (the work); the ties are given (YthcecgdhpondfaaDoorTie.lean); close each card by the builder's one call (the guide's Derived/Test/ToyasCard.lean, 'card_holds'). Laid BY PROGRAM, IN A SANDBOX (cutbox-door.mjs). By AI agents, Wed Nov 11 2026. No macro, syntax, notation, axiom, sorry.
-/
import Derived.Test.YthcecgdhpondfaaDoorRows
import GoSem.ClaimSeven
namespace Go.Proofs.YthcecgdhpondfaaDoor
namespace Rows

/-- THE TIED CARD OF 'laws.FnExactEscaped'. -/
def fnExactEscapedCard : Claim7 := { stood := { row := fnExactEscapedRow, standIns := [], harness := (true, "253864c629ecc9af579d0ac33b98bbd5506794cab9acf7cf36e379297539bbdc"), looks := false }, kinds := [], alts := [], laidByText := true, laidKinds := [.data], laidTests := true, laidLooks := .later }
def FnExactEscapedCardSaid : Prop := Claim7.holds Tryd.pinned (.plain (OpenSpec.ofChange fnExactEscapedSpec)) fnExactEscapedCard

/-- THE TIED CARD OF 'laws.FnExactUnescaped'. -/
def fnExactUnescapedCard : Claim7 := { stood := { row := fnExactUnescapedRow, standIns := [], harness := (true, "253864c629ecc9af579d0ac33b98bbd5506794cab9acf7cf36e379297539bbdc"), looks := false }, kinds := [], alts := [], laidByText := true, laidKinds := [.data], laidTests := true, laidLooks := .later }
def FnExactUnescapedCardSaid : Prop := Claim7.holds Tryd.pinned (.plain (OpenSpec.ofChange fnExactUnescapedSpec)) fnExactUnescapedCard

/-- THE TIED CARD OF 'laws.FnExactMarkText'. -/
def fnExactMarkTextCard : Claim7 := { stood := { row := fnExactMarkTextRow, standIns := [], harness := (true, "253864c629ecc9af579d0ac33b98bbd5506794cab9acf7cf36e379297539bbdc"), looks := false }, kinds := [], alts := [], laidByText := true, laidKinds := [.data], laidTests := true, laidLooks := .later }
def FnExactMarkTextCardSaid : Prop := Claim7.holds Tryd.pinned (.plain (OpenSpec.ofChange fnExactMarkTextSpec)) fnExactMarkTextCard

/-- THE SECOND FORM's CARD OF 'laws.FnExactEscaped'. -/
def fnExactEscapedUptoCard : Claim7 := { stood := { row := fnExactEscapedUptoRow, standIns := [], harness := (true, "253864c629ecc9af579d0ac33b98bbd5506794cab9acf7cf36e379297539bbdc"), looks := false }, kinds := [], alts := [], laidByText := true, laidKinds := [.data], laidTests := true, laidLooks := .later }
def FnExactEscapedUptoCardSaid : Prop := Claim7.holds Tryd.pinned (.plain (OpenSpec.upto fnExactEscapedSpec)) fnExactEscapedUptoCard

/-- THE SECOND FORM's CARD OF 'laws.FnExactUnescaped'. -/
def fnExactUnescapedUptoCard : Claim7 := { stood := { row := fnExactUnescapedUptoRow, standIns := [], harness := (true, "253864c629ecc9af579d0ac33b98bbd5506794cab9acf7cf36e379297539bbdc"), looks := false }, kinds := [], alts := [], laidByText := true, laidKinds := [.data], laidTests := true, laidLooks := .later }
def FnExactUnescapedUptoCardSaid : Prop := Claim7.holds Tryd.pinned (.plain (OpenSpec.upto fnExactUnescapedSpec)) fnExactUnescapedUptoCard

/-- THE SECOND FORM's CARD OF 'laws.FnExactMarkText'. -/
def fnExactMarkTextUptoCard : Claim7 := { stood := { row := fnExactMarkTextUptoRow, standIns := [], harness := (true, "253864c629ecc9af579d0ac33b98bbd5506794cab9acf7cf36e379297539bbdc"), looks := false }, kinds := [], alts := [], laidByText := true, laidKinds := [.data], laidTests := true, laidLooks := .later }
def FnExactMarkTextUptoCardSaid : Prop := Claim7.holds Tryd.pinned (.plain (OpenSpec.upto fnExactMarkTextSpec)) fnExactMarkTextUptoCard
end Rows
end Go.Proofs.YthcecgdhpondfaaDoor
