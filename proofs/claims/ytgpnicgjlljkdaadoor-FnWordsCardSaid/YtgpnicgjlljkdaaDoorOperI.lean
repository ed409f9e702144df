/-
  Contract of the program's function Operate: it answers 'opV op a b', for all integers; what was in memory before stays as it was. No condition.
-/
import Derived.Test.YtgpnicgjlljkdaaDoorOper
import Derived.Laws.EntriesVeiled
namespace Go.Proofs.YtgpnicgjlljkdaaDoor.Con
open Go.RowKit

theorem same_of {P : Program} {f : FuncId} {args : Array Value} {w : World} {v : Value} (h : Calls P f args w fun e w' => e = .returned v ∧ w = w') :
    Calls P f args w fun e w' => e = .returned v ∧ w' = w := h.mono fun _ _ ⟨a, b⟩ => ⟨a, b.symm⟩

/-- Is there such an operator? -/
def isopV (op : Int) : Bool := decide (1 ≤ op ∧ op ≤ 6)
def quoV (x y : Int) : Int := if y = 0 then 0 else wrap64 (x.tdiv y)

end Go.Proofs.YtgpnicgjlljkdaaDoor.Con
