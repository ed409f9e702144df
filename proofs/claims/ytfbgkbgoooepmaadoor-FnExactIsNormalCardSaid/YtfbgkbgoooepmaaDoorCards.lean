/-
  DERIVED. GIVEN WITH THE SEED: THE CARDS: each row of YtfbgkbgoooepmaaDoorRows.lean that lists a variable, with what it lists TIED to the program's text (the seventh form; the later family's looks); each row that meets fmt, with fmt's text TOLD by the authors' own Lean function (tested against real Go, not proved from fmt's source: count such statements apart). THE CARD IS WHAT COUNTS. Prove the row's statement (the work); the ties are given (YtfbgkbgoooepmaaDoorTie.lean); close each card by the builder's one call (the guide's Derived/Test/ToyasCard.lean, 'card_holds'). Laid BY PROGRAM, IN A SANDBOX (cutbox-door.mjs). By AI agents, Wed Nov 11 2026. No macro, syntax, notation, axiom, sorry.
-/
import Derived.Test.YtfbgkbgoooepmaaDoorRows
import GoSem.ClaimSeven
namespace Go.Proofs.YtfbgkbgoooepmaaDoor
namespace Rows

/-- THE TIED CARD OF 'laws.FnExactValidCore'. -/
def fnExactValidCoreCard : Claim7 := { stood := { row := fnExactValidCoreRow, standIns := [], harness := (true, "7960831edb45648fd197e24ad7bd9b3224bab69fe729170203ec940c733df98e"), looks := false }, kinds := [], alts := [], laidByText := true, laidKinds := [.data], laidTests := true, laidLooks := .later }
def FnExactValidCoreCardSaid : Prop := Claim7.holds Tryd.pinned (.plain (OpenSpec.ofChange fnExactValidCoreSpec)) fnExactValidCoreCard

/-- THE TIED CARD OF 'laws.FnExactCoreSize'. -/
def fnExactCoreSizeCard : Claim7 := { stood := { row := fnExactCoreSizeRow, standIns := [], harness := (true, "7960831edb45648fd197e24ad7bd9b3224bab69fe729170203ec940c733df98e"), looks := false }, kinds := [], alts := [], laidByText := true, laidKinds := [.data], laidTests := true, laidLooks := .later }
def FnExactCoreSizeCardSaid : Prop := Claim7.holds Tryd.pinned (.plain (OpenSpec.ofChange fnExactCoreSizeSpec)) fnExactCoreSizeCard

/-- THE TIED CARD OF 'laws.FnExactIsErased'. -/
def fnExactIsErasedCard : Claim7 := { stood := { row := fnExactIsErasedRow, standIns := [], harness := (true, "7960831edb45648fd197e24ad7bd9b3224bab69fe729170203ec940c733df98e"), looks := false }, kinds := [], alts := [], laidByText := true, laidKinds := [.data], laidTests := true, laidLooks := .later }
def FnExactIsErasedCardSaid : Prop := Claim7.holds Tryd.pinned (.plain (OpenSpec.ofChange fnExactIsErasedSpec)) fnExactIsErasedCard

/-- THE TIED CARD OF 'laws.FnExactIsClosed'. -/
def fnExactIsClosedCard : Claim7 := { stood := { row := fnExactIsClosedRow, standIns := [], harness := (true, "7960831edb45648fd197e24ad7bd9b3224bab69fe729170203ec940c733df98e"), looks := false }, kinds := [], alts := [], laidByText := true, laidKinds := [.data], laidTests := true, laidLooks := .later }
def FnExactIsClosedCardSaid : Prop := Claim7.holds Tryd.pinned (.plain (OpenSpec.ofChange fnExactIsClosedSpec)) fnExactIsClosedCard

/-- THE TIED CARD OF 'laws.FnExactCountVar'. -/
def fnExactCountVarCard : Claim7 := { stood := { row := fnExactCountVarRow, standIns := [], harness := (true, "7960831edb45648fd197e24ad7bd9b3224bab69fe729170203ec940c733df98e"), looks := false }, kinds := [], alts := [], laidByText := true, laidKinds := [.data], laidTests := true, laidLooks := .later }
def FnExactCountVarCardSaid : Prop := Claim7.holds Tryd.pinned (.plain (OpenSpec.ofChange fnExactCountVarSpec)) fnExactCountVarCard

/-- THE TIED CARD OF 'laws.FnExactValidBook'. -/
def fnExactValidBookCard : Claim7 := { stood := { row := fnExactValidBookRow, standIns := [], harness := (true, "7960831edb45648fd197e24ad7bd9b3224bab69fe729170203ec940c733df98e"), looks := false }, kinds := [], alts := [], laidByText := true, laidKinds := [.data], laidTests := true, laidLooks := .later }
def FnExactValidBookCardSaid : Prop := Claim7.holds Tryd.pinned (.plain (OpenSpec.ofChange fnExactValidBookSpec)) fnExactValidBookCard

/-- THE TIED CARD OF 'laws.FnExactIsStratified'. -/
def fnExactIsStratifiedCard : Claim7 := { stood := { row := fnExactIsStratifiedRow, standIns := [], harness := (true, "7960831edb45648fd197e24ad7bd9b3224bab69fe729170203ec940c733df98e"), looks := false }, kinds := [], alts := [], laidByText := true, laidKinds := [.data], laidTests := true, laidLooks := .later }
def FnExactIsStratifiedCardSaid : Prop := Claim7.holds Tryd.pinned (.plain (OpenSpec.ofChange fnExactIsStratifiedSpec)) fnExactIsStratifiedCard

/-- THE TIED CARD OF 'laws.FnExactShiftCore'. -/
def fnExactShiftCoreCard : Claim7 := { stood := { row := fnExactShiftCoreRow, standIns := [], harness := (true, "7960831edb45648fd197e24ad7bd9b3224bab69fe729170203ec940c733df98e"), looks := false }, kinds := [], alts := [], laidByText := true, laidKinds := [.data], laidTests := true, laidLooks := .later }
def FnExactShiftCoreCardSaid : Prop := Claim7.holds Tryd.pinned (.plain (OpenSpec.ofChange fnExactShiftCoreSpec)) fnExactShiftCoreCard

/-- THE TIED CARD OF 'laws.FnExactInstantiateCore'. -/
def fnExactInstantiateCoreCard : Claim7 := { stood := { row := fnExactInstantiateCoreRow, standIns := [], harness := (true, "7960831edb45648fd197e24ad7bd9b3224bab69fe729170203ec940c733df98e"), looks := false }, kinds := [], alts := [], laidByText := true, laidKinds := [.data], laidTests := true, laidLooks := .later }
def FnExactInstantiateCoreCardSaid : Prop := Claim7.holds Tryd.pinned (.plain (OpenSpec.ofChange fnExactInstantiateCoreSpec)) fnExactInstantiateCoreCard

/-- THE TIED CARD OF 'laws.FnExactEraseCore'. -/
def fnExactEraseCoreCard : Claim7 := { stood := { row := fnExactEraseCoreRow, standIns := [], harness := (true, "7960831edb45648fd197e24ad7bd9b3224bab69fe729170203ec940c733df98e"), looks := false }, kinds := [], alts := [], laidByText := true, laidKinds := [.data], laidTests := true, laidLooks := .later }
def FnExactEraseCoreCardSaid : Prop := Claim7.holds Tryd.pinned (.plain (OpenSpec.ofChange fnExactEraseCoreSpec)) fnExactEraseCoreCard

/-- THE TIED CARD OF 'laws.FnExactEraseBook'. -/
def fnExactEraseBookCard : Claim7 := { stood := { row := fnExactEraseBookRow, standIns := [], harness := (true, "7960831edb45648fd197e24ad7bd9b3224bab69fe729170203ec940c733df98e"), looks := false }, kinds := [], alts := [], laidByText := true, laidKinds := [.data], laidTests := true, laidLooks := .later }
def FnExactEraseBookCardSaid : Prop := Claim7.holds Tryd.pinned (.plain (OpenSpec.ofChange fnExactEraseBookSpec)) fnExactEraseBookCard

/-- THE TIED CARD OF 'laws.FnExactIsNormal'. -/
def fnExactIsNormalCard : Claim7 := { stood := { row := fnExactIsNormalRow, standIns := [], harness := (true, "7960831edb45648fd197e24ad7bd9b3224bab69fe729170203ec940c733df98e"), looks := false }, kinds := [], alts := [], laidByText := true, laidKinds := [.data], laidTests := true, laidLooks := .later }
def FnExactIsNormalCardSaid : Prop := Claim7.holds Tryd.pinned (.plain (OpenSpec.ofChange fnExactIsNormalSpec)) fnExactIsNormalCard

/-- THE SECOND FORM's CARD OF 'laws.FnExactValidCore'. -/
def fnExactValidCoreUptoCard : Claim7 := { stood := { row := fnExactValidCoreUptoRow, standIns := [], harness := (true, "7960831edb45648fd197e24ad7bd9b3224bab69fe729170203ec940c733df98e"), looks := false }, kinds := [], alts := [], laidByText := true, laidKinds := [.data], laidTests := true, laidLooks := .later }
def FnExactValidCoreUptoCardSaid : Prop := Claim7.holds Tryd.pinned (.plain (OpenSpec.upto fnExactValidCoreSpec)) fnExactValidCoreUptoCard

/-- THE SECOND FORM's CARD OF 'laws.FnExactCoreSize'. -/
def fnExactCoreSizeUptoCard : Claim7 := { stood := { row := fnExactCoreSizeUptoRow, standIns := [], harness := (true, "7960831edb45648fd197e24ad7bd9b3224bab69fe729170203ec940c733df98e"), looks := false }, kinds := [], alts := [], laidByText := true, laidKinds := [.data], laidTests := true, laidLooks := .later }
def FnExactCoreSizeUptoCardSaid : Prop := Claim7.holds Tryd.pinned (.plain (OpenSpec.upto fnExactCoreSizeSpec)) fnExactCoreSizeUptoCard

/-- THE SECOND FORM's CARD OF 'laws.FnExactIsErased'. -/
def fnExactIsErasedUptoCard : Claim7 := { stood := { row := fnExactIsErasedUptoRow, standIns := [], harness := (true, "7960831edb45648fd197e24ad7bd9b3224bab69fe729170203ec940c733df98e"), looks := false }, kinds := [], alts := [], laidByText := true, laidKinds := [.data], laidTests := true, laidLooks := .later }
def FnExactIsErasedUptoCardSaid : Prop := Claim7.holds Tryd.pinned (.plain (OpenSpec.upto fnExactIsErasedSpec)) fnExactIsErasedUptoCard

/-- THE SECOND FORM's CARD OF 'laws.FnExactIsClosed'. -/
def fnExactIsClosedUptoCard : Claim7 := { stood := { row := fnExactIsClosedUptoRow, standIns := [], harness := (true, "7960831edb45648fd197e24ad7bd9b3224bab69fe729170203ec940c733df98e"), looks := false }, kinds := [], alts := [], laidByText := true, laidKinds := [.data], laidTests := true, laidLooks := .later }
def FnExactIsClosedUptoCardSaid : Prop := Claim7.holds Tryd.pinned (.plain (OpenSpec.upto fnExactIsClosedSpec)) fnExactIsClosedUptoCard

/-- THE SECOND FORM's CARD OF 'laws.FnExactCountVar'. -/
def fnExactCountVarUptoCard : Claim7 := { stood := { row := fnExactCountVarUptoRow, standIns := [], harness := (true, "7960831edb45648fd197e24ad7bd9b3224bab69fe729170203ec940c733df98e"), looks := false }, kinds := [], alts := [], laidByText := true, laidKinds := [.data], laidTests := true, laidLooks := .later }
def FnExactCountVarUptoCardSaid : Prop := Claim7.holds Tryd.pinned (.plain (OpenSpec.upto fnExactCountVarSpec)) fnExactCountVarUptoCard

/-- THE SECOND FORM's CARD OF 'laws.FnExactValidBook'. -/
def fnExactValidBookUptoCard : Claim7 := { stood := { row := fnExactValidBookUptoRow, standIns := [], harness := (true, "7960831edb45648fd197e24ad7bd9b3224bab69fe729170203ec940c733df98e"), looks := false }, kinds := [], alts := [], laidByText := true, laidKinds := [.data], laidTests := true, laidLooks := .later }
def FnExactValidBookUptoCardSaid : Prop := Claim7.holds Tryd.pinned (.plain (OpenSpec.upto fnExactValidBookSpec)) fnExactValidBookUptoCard

/-- THE SECOND FORM's CARD OF 'laws.FnExactIsStratified'. -/
def fnExactIsStratifiedUptoCard : Claim7 := { stood := { row := fnExactIsStratifiedUptoRow, standIns := [], harness := (true, "7960831edb45648fd197e24ad7bd9b3224bab69fe729170203ec940c733df98e"), looks := false }, kinds := [], alts := [], laidByText := true, laidKinds := [.data], laidTests := true, laidLooks := .later }
def FnExactIsStratifiedUptoCardSaid : Prop := Claim7.holds Tryd.pinned (.plain (OpenSpec.upto fnExactIsStratifiedSpec)) fnExactIsStratifiedUptoCard

/-- THE SECOND FORM's CARD OF 'laws.FnExactShiftCore'. -/
def fnExactShiftCoreUptoCard : Claim7 := { stood := { row := fnExactShiftCoreUptoRow, standIns := [], harness := (true, "7960831edb45648fd197e24ad7bd9b3224bab69fe729170203ec940c733df98e"), looks := false }, kinds := [], alts := [], laidByText := true, laidKinds := [.data], laidTests := true, laidLooks := .later }
def FnExactShiftCoreUptoCardSaid : Prop := Claim7.holds Tryd.pinned (.plain (OpenSpec.upto fnExactShiftCoreSpec)) fnExactShiftCoreUptoCard

/-- THE SECOND FORM's CARD OF 'laws.FnExactInstantiateCore'. -/
def fnExactInstantiateCoreUptoCard : Claim7 := { stood := { row := fnExactInstantiateCoreUptoRow, standIns := [], harness := (true, "7960831edb45648fd197e24ad7bd9b3224bab69fe729170203ec940c733df98e"), looks := false }, kinds := [], alts := [], laidByText := true, laidKinds := [.data], laidTests := true, laidLooks := .later }
def FnExactInstantiateCoreUptoCardSaid : Prop := Claim7.holds Tryd.pinned (.plain (OpenSpec.upto fnExactInstantiateCoreSpec)) fnExactInstantiateCoreUptoCard

/-- THE SECOND FORM's CARD OF 'laws.FnExactEraseCore'. -/
def fnExactEraseCoreUptoCard : Claim7 := { stood := { row := fnExactEraseCoreUptoRow, standIns := [], harness := (true, "7960831edb45648fd197e24ad7bd9b3224bab69fe729170203ec940c733df98e"), looks := false }, kinds := [], alts := [], laidByText := true, laidKinds := [.data], laidTests := true, laidLooks := .later }
def FnExactEraseCoreUptoCardSaid : Prop := Claim7.holds Tryd.pinned (.plain (OpenSpec.upto fnExactEraseCoreSpec)) fnExactEraseCoreUptoCard

/-- THE SECOND FORM's CARD OF 'laws.FnExactEraseBook'. -/
def fnExactEraseBookUptoCard : Claim7 := { stood := { row := fnExactEraseBookUptoRow, standIns := [], harness := (true, "7960831edb45648fd197e24ad7bd9b3224bab69fe729170203ec940c733df98e"), looks := false }, kinds := [], alts := [], laidByText := true, laidKinds := [.data], laidTests := true, laidLooks := .later }
def FnExactEraseBookUptoCardSaid : Prop := Claim7.holds Tryd.pinned (.plain (OpenSpec.upto fnExactEraseBookSpec)) fnExactEraseBookUptoCard

/-- THE SECOND FORM's CARD OF 'laws.FnExactIsNormal'. -/
def fnExactIsNormalUptoCard : Claim7 := { stood := { row := fnExactIsNormalUptoRow, standIns := [], harness := (true, "7960831edb45648fd197e24ad7bd9b3224bab69fe729170203ec940c733df98e"), looks := false }, kinds := [], alts := [], laidByText := true, laidKinds := [.data], laidTests := true, laidLooks := .later }
def FnExactIsNormalUptoCardSaid : Prop := Claim7.holds Tryd.pinned (.plain (OpenSpec.upto fnExactIsNormalSpec)) fnExactIsNormalUptoCard
end Rows
end Go.Proofs.YtfbgkbgoooepmaaDoor
