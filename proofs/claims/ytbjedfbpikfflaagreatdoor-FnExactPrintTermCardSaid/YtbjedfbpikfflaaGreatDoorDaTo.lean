/-
  The laws' own functions toConstructor, toConstructorS, toData, toDataS: copies in blocks of their own. Condition: the list was counted.
-/
import Derived.Test.YtbjedfbpikfflaaGreatDoorDa
import Derived.Test.YtbjedfbpikfflaaGreatDoorDaSz
namespace Go.Proofs.YtbjedfbpikfflaaGreatDoor.Con
open Go.RowKit
set_option linter.unusedVariables false

/-- What a declaration says, without its places. -/
def cty (c : LC) : ByteArray × List Ty := (c.n, c.xs.map LT.ty)
def dty (d : LD) : ByteArray × List (ByteArray × List Ty) := (d.n, d.xs.map cty)

def ToN {α β : Type} (ok : World → LN α → Prop) (cb : LN α → List Nat) (ty : LN α → β) (w : World) (c : LN α) (e : Ending) (w' : World) : Prop := ∃ u : LN α, e = .returned u.val ∧ ty u = ty c ∧ NewE ok cb w.heap.size w' u ∧ Gw w w'
def ToNS {α β : Type} (ok : World → LN α → Prop) (cb : LN α → List Nat) (ty : LN α → β) (w : World) (cs : List (LN α)) (e : Ending) (w' : World) : Prop :=
  ∃ (us : List (LN α)) (a : Option Addr) (cap : Nat), e = .returned (.slice a us.length cap) ∧ us.map ty = cs.map ty ∧ NewSl ok cb w.heap.size w' a cap us ∧ Gw w w'

theorem slOk_grow_of {w w' : World} {a : Option Addr} {cap : Nat} {ks : List LT} (h : slOk w a cap ks) (g : Below w.heap.size w w') : slOk w' a cap ks := h.grow g

end Go.Proofs.YtbjedfbpikfflaaGreatDoor.Con
