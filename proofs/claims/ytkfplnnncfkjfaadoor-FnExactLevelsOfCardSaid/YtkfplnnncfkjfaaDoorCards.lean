/-
  DERIVED. GIVEN WITH THE SEED: THE CARDS: each row of YtkfplnnncfkjfaaDoorRows.lean that lists a variable, with what it lists TIED to the program's text (the seventh form; the later family's looks); each row that meets fmt, with fmt's text TOLD by the authors' own Lean function (tested against real Go, not proved from fmt's source: count such statements apart). THE CARD IS WHAT COUNTS. Prove the row's statement (the work); the ties are given (YtkfplnnncfkjfaaDoorTie.lean); close each card by the builder's one call (the guide's Derived/Test/ToyasCard.lean, 'card_holds'). Laid BY PROGRAM, IN A SANDBOX (cutbox-door.mjs). By AI agents, Wed Nov 11 2026. No macro, syntax, notation, axiom, sorry.
-/
import Derived.Test.YtkfplnnncfkjfaaDoorRows
import GoSem.ClaimSeven
namespace Go.Proofs.YtkfplnnncfkjfaaDoor
namespace Rows

/-- THE TIED CARD OF 'laws.FnExactMainDef'. -/
def fnExactMainDefCard : Claim7 := { stood := { row := fnExactMainDefRow, standIns := [], harness := (true, "17eddb54b9641691564fe39c72a57e2d4b2ddf5377c845f55fedc2fb0928ec89"), looks := true }, kinds := [], alts := [], laidByText := true, laidKinds := [.data], laidTests := true, laidLooks := .later }
def FnExactMainDefCardSaid : Prop := Claim7.holds Tryd.pinned (.plain (OpenSpec.ofChange fnExactMainDefSpec)) fnExactMainDefCard

/-- THE TIED CARD OF 'laws.FnExactUsesOf'. -/
def fnExactUsesOfCard : Claim7 := { stood := { row := fnExactUsesOfRow, standIns := [], harness := (true, "17eddb54b9641691564fe39c72a57e2d4b2ddf5377c845f55fedc2fb0928ec89"), looks := true }, kinds := [], alts := [], laidByText := true, laidKinds := [.data], laidTests := true, laidLooks := .later }
def FnExactUsesOfCardSaid : Prop := Claim7.holds Tryd.pinned (.plain (OpenSpec.ofChange fnExactUsesOfSpec)) fnExactUsesOfCard

/-- THE TIED CARD OF 'laws.FnExactLevelsOf'. -/
def fnExactLevelsOfCard : Claim7 := { stood := { row := fnExactLevelsOfRow, standIns := [], harness := (true, "17eddb54b9641691564fe39c72a57e2d4b2ddf5377c845f55fedc2fb0928ec89"), looks := true }, kinds := [], alts := [], laidByText := true, laidKinds := [.data], laidTests := true, laidLooks := .later }
def FnExactLevelsOfCardSaid : Prop := Claim7.holds Tryd.pinned (.plain (OpenSpec.ofChange fnExactLevelsOfSpec)) fnExactLevelsOfCard

/-- THE TIED CARD OF 'laws.FnExactBoxDepth'. -/
def fnExactBoxDepthCard : Claim7 := { stood := { row := fnExactBoxDepthRow, standIns := [], harness := (true, "17eddb54b9641691564fe39c72a57e2d4b2ddf5377c845f55fedc2fb0928ec89"), looks := true }, kinds := [], alts := [], laidByText := true, laidKinds := [.data], laidTests := true, laidLooks := .later }
def FnExactBoxDepthCardSaid : Prop := Claim7.holds Tryd.pinned (.plain (OpenSpec.ofChange fnExactBoxDepthSpec)) fnExactBoxDepthCard

/-- THE SECOND FORM's CARD OF 'laws.FnExactMainDef'. -/
def fnExactMainDefUptoCard : Claim7 := { stood := { row := fnExactMainDefUptoRow, standIns := [], harness := (true, "17eddb54b9641691564fe39c72a57e2d4b2ddf5377c845f55fedc2fb0928ec89"), looks := true }, kinds := [], alts := [], laidByText := true, laidKinds := [.data], laidTests := true, laidLooks := .later }
def FnExactMainDefUptoCardSaid : Prop := Claim7.holds Tryd.pinned (.plain (OpenSpec.upto fnExactMainDefSpec)) fnExactMainDefUptoCard

/-- THE SECOND FORM's CARD OF 'laws.FnExactUsesOf'. -/
def fnExactUsesOfUptoCard : Claim7 := { stood := { row := fnExactUsesOfUptoRow, standIns := [], harness := (true, "17eddb54b9641691564fe39c72a57e2d4b2ddf5377c845f55fedc2fb0928ec89"), looks := true }, kinds := [], alts := [], laidByText := true, laidKinds := [.data], laidTests := true, laidLooks := .later }
def FnExactUsesOfUptoCardSaid : Prop := Claim7.holds Tryd.pinned (.plain (OpenSpec.upto fnExactUsesOfSpec)) fnExactUsesOfUptoCard

/-- THE SECOND FORM's CARD OF 'laws.FnExactLevelsOf'. -/
def fnExactLevelsOfUptoCard : Claim7 := { stood := { row := fnExactLevelsOfUptoRow, standIns := [], harness := (true, "17eddb54b9641691564fe39c72a57e2d4b2ddf5377c845f55fedc2fb0928ec89"), looks := true }, kinds := [], alts := [], laidByText := true, laidKinds := [.data], laidTests := true, laidLooks := .later }
def FnExactLevelsOfUptoCardSaid : Prop := Claim7.holds Tryd.pinned (.plain (OpenSpec.upto fnExactLevelsOfSpec)) fnExactLevelsOfUptoCard

/-- THE SECOND FORM's CARD OF 'laws.FnExactBoxDepth'. -/
def fnExactBoxDepthUptoCard : Claim7 := { stood := { row := fnExactBoxDepthUptoRow, standIns := [], harness := (true, "17eddb54b9641691564fe39c72a57e2d4b2ddf5377c845f55fedc2fb0928ec89"), looks := true }, kinds := [], alts := [], laidByText := true, laidKinds := [.data], laidTests := true, laidLooks := .later }
def FnExactBoxDepthUptoCardSaid : Prop := Claim7.holds Tryd.pinned (.plain (OpenSpec.upto fnExactBoxDepthSpec)) fnExactBoxDepthUptoCard
end Rows
end Go.Proofs.YtkfplnnncfkjfaaDoor
