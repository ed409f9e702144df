/-
  DERIVED. GIVEN WITH THE SEED: THE CARDS: each row of YtpafjhnamdeagaaDoorRows.lean that lists a variable, with what it lists TIED to the program's text (the seventh form; the later family's looks); each row that meets fmt, with fmt's text TOLD by the authors' own Lean function (tested against real Go, not proved from fmt's source: count such statements apart). THE CARD IS WHAT COUNTS. Prove the row's statement (the work); the ties are given (YtpafjhnamdeagaaDoorTie.lean); close each card by the builder's one call (the guide's Derived/Test/ToyasCard.lean, 'card_holds'). Laid BY PROGRAM, IN A SANDBOX (cutbox-door.mjs). By AI agents, Wed Nov 11 2026. No macro, syntax, notation, axiom, sorry.
-/
import Derived.Test.YtpafjhnamdeagaaDoorRows
import GoSem.ClaimSeven
namespace Go.Proofs.YtpafjhnamdeagaaDoor
namespace Rows

/-- THE TIED CARD OF 'laws.FnExactValidTerm'. -/
def fnExactValidTermCard : Claim7 := { stood := { row := fnExactValidTermRow, standIns := [], harness := (true, "da0d1a085a52d71023034439a0c7fb33bb1b5d1387eebb418b5b5b6c4bad8820"), looks := true }, kinds := [], alts := [], laidByText := true, laidKinds := [.data], laidTests := true, laidLooks := .later }
def FnExactValidTermCardSaid : Prop := Claim7.holds Tryd.pinned (.plain (OpenSpec.ofChange fnExactValidTermSpec)) fnExactValidTermCard

/-- THE TIED CARD OF 'laws.FnExactAlphaSame'. -/
def fnExactAlphaSameCard : Claim7 := { stood := { row := fnExactAlphaSameRow, standIns := [], harness := (true, "da0d1a085a52d71023034439a0c7fb33bb1b5d1387eebb418b5b5b6c4bad8820"), looks := true }, kinds := [], alts := [], laidByText := true, laidKinds := [.data], laidTests := true, laidLooks := .later }
def FnExactAlphaSameCardSaid : Prop := Claim7.holds Tryd.pinned (.plain (OpenSpec.ofChange fnExactAlphaSameSpec)) fnExactAlphaSameCard

/-- THE TIED CARD OF 'laws.FnExactTermSize'. -/
def fnExactTermSizeCard : Claim7 := { stood := { row := fnExactTermSizeRow, standIns := [], harness := (true, "da0d1a085a52d71023034439a0c7fb33bb1b5d1387eebb418b5b5b6c4bad8820"), looks := true }, kinds := [], alts := [], laidByText := true, laidKinds := [.data], laidTests := true, laidLooks := .later }
def FnExactTermSizeCardSaid : Prop := Claim7.holds Tryd.pinned (.plain (OpenSpec.ofChange fnExactTermSizeSpec)) fnExactTermSizeCard

/-- THE TIED CARD OF 'laws.FnExactFreeNames'. -/
def fnExactFreeNamesCard : Claim7 := { stood := { row := fnExactFreeNamesRow, standIns := [], harness := (true, "da0d1a085a52d71023034439a0c7fb33bb1b5d1387eebb418b5b5b6c4bad8820"), looks := true }, kinds := [], alts := [], laidByText := true, laidKinds := [.data], laidTests := true, laidLooks := .later }
def FnExactFreeNamesCardSaid : Prop := Claim7.holds Tryd.pinned (.plain (OpenSpec.ofChange fnExactFreeNamesSpec)) fnExactFreeNamesCard

/-- THE TIED CARD OF 'laws.FnExactValidProgram'. -/
def fnExactValidProgramCard : Claim7 := { stood := { row := fnExactValidProgramRow, standIns := [], harness := (true, "da0d1a085a52d71023034439a0c7fb33bb1b5d1387eebb418b5b5b6c4bad8820"), looks := true }, kinds := [], alts := [], laidByText := true, laidKinds := [.data], laidTests := true, laidLooks := .later }
def FnExactValidProgramCardSaid : Prop := Claim7.holds Tryd.pinned (.plain (OpenSpec.ofChange fnExactValidProgramSpec)) fnExactValidProgramCard

/-- THE SECOND FORM's CARD OF 'laws.FnExactValidTerm'. -/
def fnExactValidTermUptoCard : Claim7 := { stood := { row := fnExactValidTermUptoRow, standIns := [], harness := (true, "da0d1a085a52d71023034439a0c7fb33bb1b5d1387eebb418b5b5b6c4bad8820"), looks := true }, kinds := [], alts := [], laidByText := true, laidKinds := [.data], laidTests := true, laidLooks := .later }
def FnExactValidTermUptoCardSaid : Prop := Claim7.holds Tryd.pinned (.plain (OpenSpec.upto fnExactValidTermSpec)) fnExactValidTermUptoCard

/-- THE SECOND FORM's CARD OF 'laws.FnExactAlphaSame'. -/
def fnExactAlphaSameUptoCard : Claim7 := { stood := { row := fnExactAlphaSameUptoRow, standIns := [], harness := (true, "da0d1a085a52d71023034439a0c7fb33bb1b5d1387eebb418b5b5b6c4bad8820"), looks := true }, kinds := [], alts := [], laidByText := true, laidKinds := [.data], laidTests := true, laidLooks := .later }
def FnExactAlphaSameUptoCardSaid : Prop := Claim7.holds Tryd.pinned (.plain (OpenSpec.upto fnExactAlphaSameSpec)) fnExactAlphaSameUptoCard

/-- THE SECOND FORM's CARD OF 'laws.FnExactTermSize'. -/
def fnExactTermSizeUptoCard : Claim7 := { stood := { row := fnExactTermSizeUptoRow, standIns := [], harness := (true, "da0d1a085a52d71023034439a0c7fb33bb1b5d1387eebb418b5b5b6c4bad8820"), looks := true }, kinds := [], alts := [], laidByText := true, laidKinds := [.data], laidTests := true, laidLooks := .later }
def FnExactTermSizeUptoCardSaid : Prop := Claim7.holds Tryd.pinned (.plain (OpenSpec.upto fnExactTermSizeSpec)) fnExactTermSizeUptoCard

/-- THE SECOND FORM's CARD OF 'laws.FnExactFreeNames'. -/
def fnExactFreeNamesUptoCard : Claim7 := { stood := { row := fnExactFreeNamesUptoRow, standIns := [], harness := (true, "da0d1a085a52d71023034439a0c7fb33bb1b5d1387eebb418b5b5b6c4bad8820"), looks := true }, kinds := [], alts := [], laidByText := true, laidKinds := [.data], laidTests := true, laidLooks := .later }
def FnExactFreeNamesUptoCardSaid : Prop := Claim7.holds Tryd.pinned (.plain (OpenSpec.upto fnExactFreeNamesSpec)) fnExactFreeNamesUptoCard

/-- THE SECOND FORM's CARD OF 'laws.FnExactValidProgram'. -/
def fnExactValidProgramUptoCard : Claim7 := { stood := { row := fnExactValidProgramUptoRow, standIns := [], harness := (true, "da0d1a085a52d71023034439a0c7fb33bb1b5d1387eebb418b5b5b6c4bad8820"), looks := true }, kinds := [], alts := [], laidByText := true, laidKinds := [.data], laidTests := true, laidLooks := .later }
def FnExactValidProgramUptoCardSaid : Prop := Claim7.holds Tryd.pinned (.plain (OpenSpec.upto fnExactValidProgramSpec)) fnExactValidProgramUptoCard
end Rows
end Go.Proofs.YtpafjhnamdeagaaDoor
