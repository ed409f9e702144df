/-
  DERIVED. GIVEN WITH THE SEED: THE CARDS: each row of YtbbldkhlclfmkaaDoorRows.lean that lists a variable, with what it lists TIED to the program's text (the seventh form; the later family's looks); each row that meets fmt, with fmt's text TOLD by the authors' own Lean function (tested against real Go, not proved from fmt's source: count such statements apart). THE CARD IS WHAT COUNTS. Prove the row's statement (the work); the ties are given (YtbbldkhlclfmkaaDoorTie.lean); close each card by the builder's one call (the guide's Derived/Test/ToyasCard.lean, 'card_holds'). Laid BY PROGRAM, IN A SANDBOX (cutbox-door.mjs). By AI agents, Wed Nov 11 2026. No macro, syntax, notation, axiom, sorry.
-/
import Derived.Test.YtbbldkhlclfmkaaDoorRows
import GoSem.ClaimSeven
namespace Go.Proofs.YtbbldkhlclfmkaaDoor
namespace Rows

/-- THE TIED CARD OF 'laws.FnExactCoreText'. -/
def fnExactCoreTextCard : Claim7 := { stood := { row := fnExactCoreTextRow, standIns := [], harness := (true, "1de29f22219847665d32b9f745f7dd96a9d21ecbddae9168c22a432617270669"), looks := false }, kinds := [], alts := [], laidByText := true, laidKinds := [.data, .data], laidTests := true, laidLooks := .later }
def FnExactCoreTextCardSaid : Prop := Claim7.holds Tryd.pinned (.plain (OpenSpec.ofChange fnExactCoreTextSpec)) fnExactCoreTextCard

/-- THE TIED CARD OF 'laws.FnExactShiftCore'. -/
def fnExactShiftCoreCard : Claim7 := { stood := { row := fnExactShiftCoreRow, standIns := [], harness := (true, "1de29f22219847665d32b9f745f7dd96a9d21ecbddae9168c22a432617270669"), looks := false }, kinds := [], alts := [], laidByText := true, laidKinds := [.data], laidTests := true, laidLooks := .later }
def FnExactShiftCoreCardSaid : Prop := Claim7.holds Tryd.pinned (.plain (OpenSpec.ofChange fnExactShiftCoreSpec)) fnExactShiftCoreCard

/-- THE TIED CARD OF 'laws.FnExactInstantiateCore'. -/
def fnExactInstantiateCoreCard : Claim7 := { stood := { row := fnExactInstantiateCoreRow, standIns := [], harness := (true, "1de29f22219847665d32b9f745f7dd96a9d21ecbddae9168c22a432617270669"), looks := false }, kinds := [], alts := [], laidByText := true, laidKinds := [.data], laidTests := true, laidLooks := .later }
def FnExactInstantiateCoreCardSaid : Prop := Claim7.holds Tryd.pinned (.plain (OpenSpec.ofChange fnExactInstantiateCoreSpec)) fnExactInstantiateCoreCard

/-- THE TIED CARD OF 'laws.FnExactIsStratified'. -/
def fnExactIsStratifiedCard : Claim7 := { stood := { row := fnExactIsStratifiedRow, standIns := [], harness := (true, "1de29f22219847665d32b9f745f7dd96a9d21ecbddae9168c22a432617270669"), looks := false }, kinds := [], alts := [], laidByText := true, laidKinds := [.data], laidTests := true, laidLooks := .later }
def FnExactIsStratifiedCardSaid : Prop := Claim7.holds Tryd.pinned (.plain (OpenSpec.ofChange fnExactIsStratifiedSpec)) fnExactIsStratifiedCard

/-- THE SECOND FORM's CARD OF 'laws.FnExactCoreText'. -/
def fnExactCoreTextUptoCard : Claim7 := { stood := { row := fnExactCoreTextUptoRow, standIns := [], harness := (true, "1de29f22219847665d32b9f745f7dd96a9d21ecbddae9168c22a432617270669"), looks := false }, kinds := [], alts := [], laidByText := true, laidKinds := [.data, .data], laidTests := true, laidLooks := .later }
def FnExactCoreTextUptoCardSaid : Prop := Claim7.holds Tryd.pinned (.plain (OpenSpec.upto fnExactCoreTextSpec)) fnExactCoreTextUptoCard

/-- THE SECOND FORM's CARD OF 'laws.FnExactShiftCore'. -/
def fnExactShiftCoreUptoCard : Claim7 := { stood := { row := fnExactShiftCoreUptoRow, standIns := [], harness := (true, "1de29f22219847665d32b9f745f7dd96a9d21ecbddae9168c22a432617270669"), looks := false }, kinds := [], alts := [], laidByText := true, laidKinds := [.data], laidTests := true, laidLooks := .later }
def FnExactShiftCoreUptoCardSaid : Prop := Claim7.holds Tryd.pinned (.plain (OpenSpec.upto fnExactShiftCoreSpec)) fnExactShiftCoreUptoCard

/-- THE SECOND FORM's CARD OF 'laws.FnExactInstantiateCore'. -/
def fnExactInstantiateCoreUptoCard : Claim7 := { stood := { row := fnExactInstantiateCoreUptoRow, standIns := [], harness := (true, "1de29f22219847665d32b9f745f7dd96a9d21ecbddae9168c22a432617270669"), looks := false }, kinds := [], alts := [], laidByText := true, laidKinds := [.data], laidTests := true, laidLooks := .later }
def FnExactInstantiateCoreUptoCardSaid : Prop := Claim7.holds Tryd.pinned (.plain (OpenSpec.upto fnExactInstantiateCoreSpec)) fnExactInstantiateCoreUptoCard

/-- THE SECOND FORM's CARD OF 'laws.FnExactIsStratified'. -/
def fnExactIsStratifiedUptoCard : Claim7 := { stood := { row := fnExactIsStratifiedUptoRow, standIns := [], harness := (true, "1de29f22219847665d32b9f745f7dd96a9d21ecbddae9168c22a432617270669"), looks := false }, kinds := [], alts := [], laidByText := true, laidKinds := [.data], laidTests := true, laidLooks := .later }
def FnExactIsStratifiedUptoCardSaid : Prop := Claim7.holds Tryd.pinned (.plain (OpenSpec.upto fnExactIsStratifiedSpec)) fnExactIsStratifiedUptoCard
end Rows
end Go.Proofs.YtbbldkhlclfmkaaDoor
