/-
  DERIVED. GIVEN WITH THE SEED: THE CARDS: each row of YtaenohcjmopnlaaDoorRows.lean that lists a variable, with what it lists TIED to the program's text (the seventh form; the later family's looks); each row that meets fmt, with fmt's text TOLD by the authors' own Lean function (tested against real Go, not proved from fmt's source: count such statements apart). THE CARD IS WHAT COUNTS. Prove the row's statement (the work); the ties are given (YtaenohcjmopnlaaDoorTie.lean); close each card by the builder's one call (the guide's Derived/Test/ToyasCard.lean, 'card_holds'). Laid BY PROGRAM, IN A SANDBOX (cutbox-door.mjs). By AI agents, Wed Nov 11 2026. No macro, syntax, notation, axiom, sorry.
-/
import Derived.Test.YtaenohcjmopnlaaDoorRows
import GoSem.ClaimSeven
namespace Go.Proofs.YtaenohcjmopnlaaDoor
namespace Rows

/-- THE TIED CARD OF 'laws.FnExactInstantiateCore'. -/
def fnExactInstantiateCoreCard : Claim7 := { stood := { row := fnExactInstantiateCoreRow, standIns := [], harness := (true, "1ac280b36f179daeda6bdd6ea50416094cbf3c5ecae71ff7c0243bff3fa29121"), looks := false }, kinds := [], alts := [], laidByText := true, laidKinds := [.data], laidTests := true, laidLooks := .later }
def FnExactInstantiateCoreCardSaid : Prop := Claim7.holds Tryd.pinned (.plain (OpenSpec.ofChange fnExactInstantiateCoreSpec)) fnExactInstantiateCoreCard

/-- THE TIED CARD OF 'laws.FnExactIsNormal'. -/
def fnExactIsNormalCard : Claim7 := { stood := { row := fnExactIsNormalRow, standIns := [], harness := (true, "1ac280b36f179daeda6bdd6ea50416094cbf3c5ecae71ff7c0243bff3fa29121"), looks := false }, kinds := [], alts := [], laidByText := true, laidKinds := [.data], laidTests := true, laidLooks := .later }
def FnExactIsNormalCardSaid : Prop := Claim7.holds Tryd.pinned (.plain (OpenSpec.ofChange fnExactIsNormalSpec)) fnExactIsNormalCard

/-- THE TIED CARD OF 'laws.FnExactEraseCore'. -/
def fnExactEraseCoreCard : Claim7 := { stood := { row := fnExactEraseCoreRow, standIns := [], harness := (true, "1ac280b36f179daeda6bdd6ea50416094cbf3c5ecae71ff7c0243bff3fa29121"), looks := false }, kinds := [], alts := [], laidByText := true, laidKinds := [.data], laidTests := true, laidLooks := .later }
def FnExactEraseCoreCardSaid : Prop := Claim7.holds Tryd.pinned (.plain (OpenSpec.ofChange fnExactEraseCoreSpec)) fnExactEraseCoreCard

/-- THE TIED CARD OF 'laws.FnExactEraseBook'. -/
def fnExactEraseBookCard : Claim7 := { stood := { row := fnExactEraseBookRow, standIns := [], harness := (true, "1ac280b36f179daeda6bdd6ea50416094cbf3c5ecae71ff7c0243bff3fa29121"), looks := false }, kinds := [], alts := [], laidByText := true, laidKinds := [.data], laidTests := true, laidLooks := .later }
def FnExactEraseBookCardSaid : Prop := Claim7.holds Tryd.pinned (.plain (OpenSpec.ofChange fnExactEraseBookSpec)) fnExactEraseBookCard

/-- THE SECOND FORM's CARD OF 'laws.FnExactInstantiateCore'. -/
def fnExactInstantiateCoreUptoCard : Claim7 := { stood := { row := fnExactInstantiateCoreUptoRow, standIns := [], harness := (true, "1ac280b36f179daeda6bdd6ea50416094cbf3c5ecae71ff7c0243bff3fa29121"), looks := false }, kinds := [], alts := [], laidByText := true, laidKinds := [.data], laidTests := true, laidLooks := .later }
def FnExactInstantiateCoreUptoCardSaid : Prop := Claim7.holds Tryd.pinned (.plain (OpenSpec.upto fnExactInstantiateCoreSpec)) fnExactInstantiateCoreUptoCard

/-- THE SECOND FORM's CARD OF 'laws.FnExactIsNormal'. -/
def fnExactIsNormalUptoCard : Claim7 := { stood := { row := fnExactIsNormalUptoRow, standIns := [], harness := (true, "1ac280b36f179daeda6bdd6ea50416094cbf3c5ecae71ff7c0243bff3fa29121"), looks := false }, kinds := [], alts := [], laidByText := true, laidKinds := [.data], laidTests := true, laidLooks := .later }
def FnExactIsNormalUptoCardSaid : Prop := Claim7.holds Tryd.pinned (.plain (OpenSpec.upto fnExactIsNormalSpec)) fnExactIsNormalUptoCard

/-- THE SECOND FORM's CARD OF 'laws.FnExactEraseCore'. -/
def fnExactEraseCoreUptoCard : Claim7 := { stood := { row := fnExactEraseCoreUptoRow, standIns := [], harness := (true, "1ac280b36f179daeda6bdd6ea50416094cbf3c5ecae71ff7c0243bff3fa29121"), looks := false }, kinds := [], alts := [], laidByText := true, laidKinds := [.data], laidTests := true, laidLooks := .later }
def FnExactEraseCoreUptoCardSaid : Prop := Claim7.holds Tryd.pinned (.plain (OpenSpec.upto fnExactEraseCoreSpec)) fnExactEraseCoreUptoCard

/-- THE SECOND FORM's CARD OF 'laws.FnExactEraseBook'. -/
def fnExactEraseBookUptoCard : Claim7 := { stood := { row := fnExactEraseBookUptoRow, standIns := [], harness := (true, "1ac280b36f179daeda6bdd6ea50416094cbf3c5ecae71ff7c0243bff3fa29121"), looks := false }, kinds := [], alts := [], laidByText := true, laidKinds := [.data], laidTests := true, laidLooks := .later }
def FnExactEraseBookUptoCardSaid : Prop := Claim7.holds Tryd.pinned (.plain (OpenSpec.upto fnExactEraseBookSpec)) fnExactEraseBookUptoCard
end Rows
end Go.Proofs.YtaenohcjmopnlaaDoor
