/-
  DERIVED. GIVEN WITH THE SEED: THE CARDS: each row of YtgobiejokgcmmaaDoorRows.lean that lists a variable, with what it lists TIED to the program's text (the seventh form; the later family's looks); each row that meets fmt, with fmt's text TOLD by the authors' own Lean function (tested against real Go, not proved from fmt's source: count such statements apart). THE CARD IS WHAT COUNTS. Prove the row's statement (the work); the ties are given (YtgobiejokgcmmaaDoorTie.lean); close each card by the builder's one call (the guide's Derived/Test/ToyasCard.lean, 'card_holds'). Laid BY PROGRAM, IN A SANDBOX (cutbox-door.mjs). By AI agents, Wed Nov 11 2026. No macro, syntax, notation, axiom, sorry.
-/
import Derived.Test.YtgobiejokgcmmaaDoorRows
import GoSem.ClaimSeven
namespace Go.Proofs.YtgobiejokgcmmaaDoor
namespace Rows

/-- THE TIED CARD OF 'laws.FnExactKindName'. -/
def fnExactKindNameCard : Claim7 := { stood := { row := fnExactKindNameRow, standIns := [], harness := (true, "bc09bca9a7ebecf2931400f2e891e70ebfaa1a9785c9f31e22adf0008c39f9a5"), looks := false }, kinds := [], alts := [], laidByText := true, laidKinds := [.data], laidTests := true, laidLooks := .later }
def FnExactKindNameCardSaid : Prop := Claim7.holds Tryd.pinned (.plain (OpenSpec.ofChange fnExactKindNameSpec)) fnExactKindNameCard

/-- THE TIED CARD OF 'laws.FnExactKindNamed'. -/
def fnExactKindNamedCard : Claim7 := { stood := { row := fnExactKindNamedRow, standIns := [], harness := (true, "bc09bca9a7ebecf2931400f2e891e70ebfaa1a9785c9f31e22adf0008c39f9a5"), looks := false }, kinds := [], alts := [], laidByText := true, laidKinds := [.data], laidTests := true, laidLooks := .later }
def FnExactKindNamedCardSaid : Prop := Claim7.holds Tryd.pinned (.plain (OpenSpec.ofChange fnExactKindNamedSpec)) fnExactKindNamedCard

/-- THE TIED CARD OF 'laws.FnExactClassName'. -/
def fnExactClassNameCard : Claim7 := { stood := { row := fnExactClassNameRow, standIns := [], harness := (true, "bc09bca9a7ebecf2931400f2e891e70ebfaa1a9785c9f31e22adf0008c39f9a5"), looks := false }, kinds := [], alts := [], laidByText := true, laidKinds := [.data], laidTests := true, laidLooks := .later }
def FnExactClassNameCardSaid : Prop := Claim7.holds Tryd.pinned (.plain (OpenSpec.ofChange fnExactClassNameSpec)) fnExactClassNameCard

/-- THE TIED CARD OF 'laws.FnExactPortsOf'. -/
def fnExactPortsOfCard : Claim7 := { stood := { row := fnExactPortsOfRow, standIns := [], harness := (true, "bc09bca9a7ebecf2931400f2e891e70ebfaa1a9785c9f31e22adf0008c39f9a5"), looks := false }, kinds := [], alts := [], laidByText := true, laidKinds := [.data], laidTests := true, laidLooks := .later }
def FnExactPortsOfCardSaid : Prop := Claim7.holds Tryd.pinned (.plain (OpenSpec.ofChange fnExactPortsOfSpec)) fnExactPortsOfCard

/-- THE TIED CARD OF 'laws.FnExactPairClass'. -/
def fnExactPairClassCard : Claim7 := { stood := { row := fnExactPairClassRow, standIns := [], harness := (true, "bc09bca9a7ebecf2931400f2e891e70ebfaa1a9785c9f31e22adf0008c39f9a5"), looks := false }, kinds := [], alts := [], laidByText := true, laidKinds := [.wider], laidTests := true, laidLooks := .later }
def FnExactPairClassCardSaid : Prop := Claim7.holds Tryd.pinned (.plain (OpenSpec.ofChange fnExactPairClassSpec)) fnExactPairClassCard

/-- THE TIED CARD OF 'laws.FnExactFirstOfPair'. -/
def fnExactFirstOfPairCard : Claim7 := { stood := { row := fnExactFirstOfPairRow, standIns := [], harness := (true, "bc09bca9a7ebecf2931400f2e891e70ebfaa1a9785c9f31e22adf0008c39f9a5"), looks := false }, kinds := [], alts := [], laidByText := true, laidKinds := [.wider], laidTests := true, laidLooks := .later }
def FnExactFirstOfPairCardSaid : Prop := Claim7.holds Tryd.pinned (.plain (OpenSpec.ofChange fnExactFirstOfPairSpec)) fnExactFirstOfPairCard

/-- THE TIED CARD OF 'laws.FnExactGrowth'. -/
def fnExactGrowthCard : Claim7 := { stood := { row := fnExactGrowthRow, standIns := [], harness := (true, "bc09bca9a7ebecf2931400f2e891e70ebfaa1a9785c9f31e22adf0008c39f9a5"), looks := false }, kinds := [], alts := [], laidByText := true, laidKinds := [.data], laidTests := true, laidLooks := .later }
def FnExactGrowthCardSaid : Prop := Claim7.holds Tryd.pinned (.plain (OpenSpec.ofChange fnExactGrowthSpec)) fnExactGrowthCard

/-- THE TIED CARD OF 'laws.FnPairTable'. -/
def fnPairTableCard : Claim7 := { stood := { row := fnPairTableRow, standIns := [], harness := (true, "bc09bca9a7ebecf2931400f2e891e70ebfaa1a9785c9f31e22adf0008c39f9a5"), looks := false }, kinds := [], alts := [], laidByText := true, laidKinds := [.wider], laidTests := true, laidLooks := .later }
def FnPairTableCardSaid : Prop := Claim7.holds Tryd.pinned (.plain (OpenSpec.ofChange fnPairTableSpec)) fnPairTableCard

/-- THE SECOND FORM's CARD OF 'laws.FnExactKindName'. -/
def fnExactKindNameUptoCard : Claim7 := { stood := { row := fnExactKindNameUptoRow, standIns := [], harness := (true, "bc09bca9a7ebecf2931400f2e891e70ebfaa1a9785c9f31e22adf0008c39f9a5"), looks := false }, kinds := [], alts := [], laidByText := true, laidKinds := [.data], laidTests := true, laidLooks := .later }
def FnExactKindNameUptoCardSaid : Prop := Claim7.holds Tryd.pinned (.plain (OpenSpec.upto fnExactKindNameSpec)) fnExactKindNameUptoCard

/-- THE SECOND FORM's CARD OF 'laws.FnExactKindNamed'. -/
def fnExactKindNamedUptoCard : Claim7 := { stood := { row := fnExactKindNamedUptoRow, standIns := [], harness := (true, "bc09bca9a7ebecf2931400f2e891e70ebfaa1a9785c9f31e22adf0008c39f9a5"), looks := false }, kinds := [], alts := [], laidByText := true, laidKinds := [.data], laidTests := true, laidLooks := .later }
def FnExactKindNamedUptoCardSaid : Prop := Claim7.holds Tryd.pinned (.plain (OpenSpec.upto fnExactKindNamedSpec)) fnExactKindNamedUptoCard

/-- THE SECOND FORM's CARD OF 'laws.FnExactClassName'. -/
def fnExactClassNameUptoCard : Claim7 := { stood := { row := fnExactClassNameUptoRow, standIns := [], harness := (true, "bc09bca9a7ebecf2931400f2e891e70ebfaa1a9785c9f31e22adf0008c39f9a5"), looks := false }, kinds := [], alts := [], laidByText := true, laidKinds := [.data], laidTests := true, laidLooks := .later }
def FnExactClassNameUptoCardSaid : Prop := Claim7.holds Tryd.pinned (.plain (OpenSpec.upto fnExactClassNameSpec)) fnExactClassNameUptoCard

/-- THE SECOND FORM's CARD OF 'laws.FnExactPortsOf'. -/
def fnExactPortsOfUptoCard : Claim7 := { stood := { row := fnExactPortsOfUptoRow, standIns := [], harness := (true, "bc09bca9a7ebecf2931400f2e891e70ebfaa1a9785c9f31e22adf0008c39f9a5"), looks := false }, kinds := [], alts := [], laidByText := true, laidKinds := [.data], laidTests := true, laidLooks := .later }
def FnExactPortsOfUptoCardSaid : Prop := Claim7.holds Tryd.pinned (.plain (OpenSpec.upto fnExactPortsOfSpec)) fnExactPortsOfUptoCard

/-- THE SECOND FORM's CARD OF 'laws.FnExactPairClass'. -/
def fnExactPairClassUptoCard : Claim7 := { stood := { row := fnExactPairClassUptoRow, standIns := [], harness := (true, "bc09bca9a7ebecf2931400f2e891e70ebfaa1a9785c9f31e22adf0008c39f9a5"), looks := false }, kinds := [], alts := [], laidByText := true, laidKinds := [.wider], laidTests := true, laidLooks := .later }
def FnExactPairClassUptoCardSaid : Prop := Claim7.holds Tryd.pinned (.plain (OpenSpec.upto fnExactPairClassSpec)) fnExactPairClassUptoCard

/-- THE SECOND FORM's CARD OF 'laws.FnExactFirstOfPair'. -/
def fnExactFirstOfPairUptoCard : Claim7 := { stood := { row := fnExactFirstOfPairUptoRow, standIns := [], harness := (true, "bc09bca9a7ebecf2931400f2e891e70ebfaa1a9785c9f31e22adf0008c39f9a5"), looks := false }, kinds := [], alts := [], laidByText := true, laidKinds := [.wider], laidTests := true, laidLooks := .later }
def FnExactFirstOfPairUptoCardSaid : Prop := Claim7.holds Tryd.pinned (.plain (OpenSpec.upto fnExactFirstOfPairSpec)) fnExactFirstOfPairUptoCard

/-- THE SECOND FORM's CARD OF 'laws.FnExactGrowth'. -/
def fnExactGrowthUptoCard : Claim7 := { stood := { row := fnExactGrowthUptoRow, standIns := [], harness := (true, "bc09bca9a7ebecf2931400f2e891e70ebfaa1a9785c9f31e22adf0008c39f9a5"), looks := false }, kinds := [], alts := [], laidByText := true, laidKinds := [.data], laidTests := true, laidLooks := .later }
def FnExactGrowthUptoCardSaid : Prop := Claim7.holds Tryd.pinned (.plain (OpenSpec.upto fnExactGrowthSpec)) fnExactGrowthUptoCard

/-- THE SECOND FORM's CARD OF 'laws.FnPairTable'. -/
def fnPairTableUptoCard : Claim7 := { stood := { row := fnPairTableUptoRow, standIns := [], harness := (true, "bc09bca9a7ebecf2931400f2e891e70ebfaa1a9785c9f31e22adf0008c39f9a5"), looks := false }, kinds := [], alts := [], laidByText := true, laidKinds := [.wider], laidTests := true, laidLooks := .later }
def FnPairTableUptoCardSaid : Prop := Claim7.holds Tryd.pinned (.plain (OpenSpec.upto fnPairTableSpec)) fnPairTableUptoCard
end Rows
end Go.Proofs.YtgobiejokgcmmaaDoor
