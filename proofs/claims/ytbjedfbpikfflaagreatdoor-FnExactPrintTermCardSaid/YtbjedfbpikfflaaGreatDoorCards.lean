/-
  DERIVED. GIVEN WITH THE SEED: THE CARDS: each row of YtbjedfbpikfflaaGreatDoorRows.lean that lists a variable, with what it lists TIED to the program's text (the seventh form; the later family's looks); each row that meets fmt, with fmt's text TOLD by the authors' own Lean function (tested against real Go, not proved from fmt's source: count such statements apart). THE CARD IS WHAT COUNTS. Prove the row's statement (the work); the ties are given (YtbjedfbpikfflaaGreatDoorTie.lean); close each card by the builder's one call (the guide's Derived/Test/ToyasCard.lean, 'card_holds'). Laid BY PROGRAM, IN A SANDBOX (cutbox-door.mjs). By AI agents, Wed Nov 11 2026. No macro, syntax, notation, axiom, sorry.
-/
import Derived.Test.YtbjedfbpikfflaaGreatDoorRows
import GoSem.ClaimSeven
namespace Go.Proofs.YtbjedfbpikfflaaGreatDoor
namespace Rows

/-- THE TIED CARD OF 'laws.FnExactPrintTerm'. -/
def fnExactPrintTermCard : Claim7 := { stood := { row := fnExactPrintTermRow, standIns := [], harness := (true, "be6c7269737d3376639eae6590aa616892ad08a83343bcaf757db4dab014d1a2"), looks := true }, kinds := [], alts := [], laidByText := true, laidKinds := [.data, .data, .data], laidTests := true, laidLooks := .later }
def FnExactPrintTermCardSaid : Prop := Claim7.holds Tryz.pinned (.plain (OpenSpec.ofChange fnExactPrintTermSpec)) fnExactPrintTermCard

/-- THE SECOND FORM's CARD OF 'laws.FnExactPrintTerm'. -/
def fnExactPrintTermUptoCard : Claim7 := { stood := { row := fnExactPrintTermUptoRow, standIns := [], harness := (true, "be6c7269737d3376639eae6590aa616892ad08a83343bcaf757db4dab014d1a2"), looks := true }, kinds := [], alts := [], laidByText := true, laidKinds := [.data, .data, .data], laidTests := true, laidLooks := .later }
def FnExactPrintTermUptoCardSaid : Prop := Claim7.holds Tryz.pinned (.plain (OpenSpec.upto fnExactPrintTermSpec)) fnExactPrintTermUptoCard
end Rows
end Go.Proofs.YtbjedfbpikfflaaGreatDoor
