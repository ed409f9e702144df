/-
  Contracts of ValidDatas, KnownType and FindData, of the model and of the program. No condition but that all lies in memory.
-/
import Derived.Test.YtpafjhnamdeagabDaOkP
import Derived.Test.YtpafjhnamdeagabDaOpen
import Derived.Test.YtpafjhnamdeagabTyBox
namespace Go.Proofs.Ytpafjhnamdeagab.Con
open Go.RowKit
set_option linter.unusedVariables false

/-- What FindData answers. -/
def FindR (D : List DD) (nm : ByteArray) (r : Int) (ok : Bool) : Prop := if datasB D = true ∧ hasB (D.map Prod.fst) nm = true then IsIx nm (D.map Prod.fst) r ∧ ok = true else r = 0 ∧ ok = false
theorem FindR.uniq {D : List DD} {nm : ByteArray} {r s : Int} {p q : Bool} (h : FindR D nm r p) (k : FindR D nm s q) : r = s ∧ p = q := by
  unfold FindR at h k
  split at h
  · rename_i hc
    rw [if_pos hc] at k
    exact ⟨h.1.uniq k.1, h.2.trans k.2.symm⟩
  · rename_i hc
    rw [if_neg hc] at k
    exact ⟨h.1.trans k.1.symm, h.2.trans k.2.symm⟩
def FindGw (D : List DD) (nm : ByteArray) (w : World) (e : Ending) (w' : World) : Prop := ∃ r ok, e = .returned (.tuple #[.int .i64 r, .bool ok]) ∧ FindR D nm r ok ∧ Gw w w'

end Go.Proofs.Ytpafjhnamdeagab.Con
