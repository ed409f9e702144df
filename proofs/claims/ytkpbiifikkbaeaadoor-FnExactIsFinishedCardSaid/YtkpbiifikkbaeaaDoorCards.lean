/-
  DERIVED. GIVEN WITH THE SEED: THE CARDS: each row of YtkpbiifikkbaeaaDoorRows.lean that lists a variable, with what it lists TIED to the program's text (the seventh form; the later family's looks); each row that meets fmt, with fmt's text TOLD by the authors' own Lean function (tested against real Go, not proved from fmt's source: count such statements apart). THE CARD IS WHAT COUNTS. Prove the row's statement (the work); the ties are given (YtkpbiifikkbaeaaDoorTie.lean); close each card by the builder's one call (the guide's Derived/Test/ToyasCard.lean, 'card_holds'). Laid BY PROGRAM, IN A SANDBOX (cutbox-door.mjs). By AI agents, Wed Nov 11 2026. No macro, syntax, notation, axiom, sorry.
-/
import Derived.Test.YtkpbiifikkbaeaaDoorRows
import GoSem.ClaimSeven
namespace Go.Proofs.YtkpbiifikkbaeaaDoor
namespace Rows

/-- THE TIED CARD OF 'laws.FnExactValidNeed'. -/
def fnExactValidNeedCard : Claim7 := { stood := { row := fnExactValidNeedRow, standIns := [], harness := (true, "5d51afeea49db62b6740028e6f7bf9b4864ea313055879cde0065a12117a1577"), looks := false }, kinds := [], alts := [], laidByText := true, laidKinds := [.data], laidTests := true, laidLooks := .later }
def FnExactValidNeedCardSaid : Prop := Claim7.holds Tryd.pinned (.plain (OpenSpec.ofChange fnExactValidNeedSpec)) fnExactValidNeedCard

/-- THE TIED CARD OF 'laws.FnExactStartNeed'. -/
def fnExactStartNeedCard : Claim7 := { stood := { row := fnExactStartNeedRow, standIns := [], harness := (true, "5d51afeea49db62b6740028e6f7bf9b4864ea313055879cde0065a12117a1577"), looks := false }, kinds := [], alts := [], laidByText := true, laidKinds := [.data], laidTests := true, laidLooks := .later }
def FnExactStartNeedCardSaid : Prop := Claim7.holds Tryd.pinned (.plain (OpenSpec.ofChange fnExactStartNeedSpec)) fnExactStartNeedCard

/-- THE TIED CARD OF 'laws.FnExactIsFinished'. -/
def fnExactIsFinishedCard : Claim7 := { stood := { row := fnExactIsFinishedRow, standIns := [], harness := (true, "5d51afeea49db62b6740028e6f7bf9b4864ea313055879cde0065a12117a1577"), looks := false }, kinds := [], alts := [], laidByText := true, laidKinds := [.data], laidTests := true, laidLooks := .later }
def FnExactIsFinishedCardSaid : Prop := Claim7.holds Tryd.pinned (.plain (OpenSpec.ofChange fnExactIsFinishedSpec)) fnExactIsFinishedCard

/-- THE SECOND FORM's CARD OF 'laws.FnExactValidNeed'. -/
def fnExactValidNeedUptoCard : Claim7 := { stood := { row := fnExactValidNeedUptoRow, standIns := [], harness := (true, "5d51afeea49db62b6740028e6f7bf9b4864ea313055879cde0065a12117a1577"), looks := false }, kinds := [], alts := [], laidByText := true, laidKinds := [.data], laidTests := true, laidLooks := .later }
def FnExactValidNeedUptoCardSaid : Prop := Claim7.holds Tryd.pinned (.plain (OpenSpec.upto fnExactValidNeedSpec)) fnExactValidNeedUptoCard

/-- THE SECOND FORM's CARD OF 'laws.FnExactStartNeed'. -/
def fnExactStartNeedUptoCard : Claim7 := { stood := { row := fnExactStartNeedUptoRow, standIns := [], harness := (true, "5d51afeea49db62b6740028e6f7bf9b4864ea313055879cde0065a12117a1577"), looks := false }, kinds := [], alts := [], laidByText := true, laidKinds := [.data], laidTests := true, laidLooks := .later }
def FnExactStartNeedUptoCardSaid : Prop := Claim7.holds Tryd.pinned (.plain (OpenSpec.upto fnExactStartNeedSpec)) fnExactStartNeedUptoCard

/-- THE SECOND FORM's CARD OF 'laws.FnExactIsFinished'. -/
def fnExactIsFinishedUptoCard : Claim7 := { stood := { row := fnExactIsFinishedUptoRow, standIns := [], harness := (true, "5d51afeea49db62b6740028e6f7bf9b4864ea313055879cde0065a12117a1577"), looks := false }, kinds := [], alts := [], laidByText := true, laidKinds := [.data], laidTests := true, laidLooks := .later }
def FnExactIsFinishedUptoCardSaid : Prop := Claim7.holds Tryd.pinned (.plain (OpenSpec.upto fnExactIsFinishedSpec)) fnExactIsFinishedUptoCard
end Rows
end Go.Proofs.YtkpbiifikkbaeaaDoor
