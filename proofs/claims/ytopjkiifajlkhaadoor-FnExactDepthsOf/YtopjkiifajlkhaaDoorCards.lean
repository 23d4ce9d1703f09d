/-
  DERIVED. GIVEN WITH THE SEED: THE CARDS: each row of YtopjkiifajlkhaaDoorRows.lean that lists a variable, with what it lists TIED to the program's text (the seventh form; the later family's looks); each row that meets fmt, with fmt's text TOLD by the authors' own Lean function (tested against real Go, not proved from fmt's source: count such statements apart). THE CARD IS WHAT COUNTS. Prove the row's statement (the work); the ties are given (YtopjkiifajlkhaaDoorTie.lean); close each card by the builder's one call (the guide's Derived/Test/ToyasCard.lean, 'card_holds'). Laid BY PROGRAM, IN A SANDBOX (cutbox-door.mjs). By AI agents, Wed Nov 11 2026. No macro, syntax, notation, axiom, sorry.
-/
import Derived.Test.YtopjkiifajlkhaaDoorRows
import GoSem.ClaimSeven
namespace Go.Proofs.YtopjkiifajlkhaaDoor
namespace Rows

/-- THE TIED CARD OF 'laws.FnExactInstrOk'. -/
def fnExactInstrOkCard : Claim7 := { stood := { row := fnExactInstrOkRow, standIns := [], harness := (true, "19b52349bdbf9d2fb5522c1682077b6bb83ae4386c4f1d4dcd280ece9ed44863"), looks := false }, kinds := [], alts := [], laidByText := true, laidKinds := [.data], laidTests := true, laidLooks := .later }
def FnExactInstrOkCardSaid : Prop := Claim7.holds Tryd.pinned (.plain (OpenSpec.ofChange fnExactInstrOkSpec)) fnExactInstrOkCard

/-- THE TIED CARD OF 'laws.FnExactDepthsOf'. -/
def fnExactDepthsOfCard : Claim7 := { stood := { row := fnExactDepthsOfRow, standIns := [], harness := (true, "19b52349bdbf9d2fb5522c1682077b6bb83ae4386c4f1d4dcd280ece9ed44863"), looks := false }, kinds := [], alts := [], laidByText := true, laidKinds := [.data], laidTests := true, laidLooks := .later }
def FnExactDepthsOfCardSaid : Prop := Claim7.holds Tryd.pinned (.plain (OpenSpec.ofChange fnExactDepthsOfSpec)) fnExactDepthsOfCard

/-- THE TIED CARD OF 'laws.FnExactProgOk'. -/
def fnExactProgOkCard : Claim7 := { stood := { row := fnExactProgOkRow, standIns := [], harness := (true, "19b52349bdbf9d2fb5522c1682077b6bb83ae4386c4f1d4dcd280ece9ed44863"), looks := false }, kinds := [], alts := [], laidByText := true, laidKinds := [.data], laidTests := true, laidLooks := .later }
def FnExactProgOkCardSaid : Prop := Claim7.holds Tryd.pinned (.plain (OpenSpec.ofChange fnExactProgOkSpec)) fnExactProgOkCard

/-- THE TIED CARD OF 'laws.FnExactProgText'. -/
def fnExactProgTextCard : Claim7 := { stood := { row := fnExactProgTextRow, standIns := [], harness := (true, "19b52349bdbf9d2fb5522c1682077b6bb83ae4386c4f1d4dcd280ece9ed44863"), looks := false }, kinds := [], alts := [], laidByText := true, laidKinds := [.data, .data, .data, .data], laidTests := true, laidLooks := .later }
def FnExactProgTextCardSaid : Prop := Claim7.holds Tryd.pinned (.plain (OpenSpec.ofChange fnExactProgTextSpec)) fnExactProgTextCard

/-- THE SECOND FORM's CARD OF 'laws.FnExactInstrOk'. -/
def fnExactInstrOkUptoCard : Claim7 := { stood := { row := fnExactInstrOkUptoRow, standIns := [], harness := (true, "19b52349bdbf9d2fb5522c1682077b6bb83ae4386c4f1d4dcd280ece9ed44863"), looks := false }, kinds := [], alts := [], laidByText := true, laidKinds := [.data], laidTests := true, laidLooks := .later }
def FnExactInstrOkUptoCardSaid : Prop := Claim7.holds Tryd.pinned (.plain (OpenSpec.upto fnExactInstrOkSpec)) fnExactInstrOkUptoCard

/-- THE SECOND FORM's CARD OF 'laws.FnExactDepthsOf'. -/
def fnExactDepthsOfUptoCard : Claim7 := { stood := { row := fnExactDepthsOfUptoRow, standIns := [], harness := (true, "19b52349bdbf9d2fb5522c1682077b6bb83ae4386c4f1d4dcd280ece9ed44863"), looks := false }, kinds := [], alts := [], laidByText := true, laidKinds := [.data], laidTests := true, laidLooks := .later }
def FnExactDepthsOfUptoCardSaid : Prop := Claim7.holds Tryd.pinned (.plain (OpenSpec.upto fnExactDepthsOfSpec)) fnExactDepthsOfUptoCard

/-- THE SECOND FORM's CARD OF 'laws.FnExactProgOk'. -/
def fnExactProgOkUptoCard : Claim7 := { stood := { row := fnExactProgOkUptoRow, standIns := [], harness := (true, "19b52349bdbf9d2fb5522c1682077b6bb83ae4386c4f1d4dcd280ece9ed44863"), looks := false }, kinds := [], alts := [], laidByText := true, laidKinds := [.data], laidTests := true, laidLooks := .later }
def FnExactProgOkUptoCardSaid : Prop := Claim7.holds Tryd.pinned (.plain (OpenSpec.upto fnExactProgOkSpec)) fnExactProgOkUptoCard

/-- THE SECOND FORM's CARD OF 'laws.FnExactProgText'. -/
def fnExactProgTextUptoCard : Claim7 := { stood := { row := fnExactProgTextUptoRow, standIns := [], harness := (true, "19b52349bdbf9d2fb5522c1682077b6bb83ae4386c4f1d4dcd280ece9ed44863"), looks := false }, kinds := [], alts := [], laidByText := true, laidKinds := [.data, .data, .data, .data], laidTests := true, laidLooks := .later }
def FnExactProgTextUptoCardSaid : Prop := Claim7.holds Tryd.pinned (.plain (OpenSpec.upto fnExactProgTextSpec)) fnExactProgTextUptoCard
end Rows
end Go.Proofs.YtopjkiifajlkhaaDoor
