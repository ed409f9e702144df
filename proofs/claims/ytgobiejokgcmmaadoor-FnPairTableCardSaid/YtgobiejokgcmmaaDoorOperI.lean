/-
  Contracts of the two wrapping functions (the model's and the program's): both answer the only number from -2147483648 to 2147483647 that differs from the argument by a multiple of 4294967296. No condition.
  Contracts of the two functions Operate (the model's and the program's): both answer 'opV op a b', for all integers. No condition.
  Contract of the program's function Operate: it answers 'opV op a b', for all integers; what was in memory before stays as it was. No condition.
-/
import Derived.Test.YtgobiejokgcmmaaDoorBase
import Derived.Deep.QuietTactic
import Derived.BigQuiet
import Derived.Lib.Hide
import Derived.Laws.EntriesVeiled
namespace Go.Proofs.YtgobiejokgcmmaaDoor.Con
open Go.RowKit

theorem w_u64 (n : Int) : wrap64 (wrap32 (IntKind.u64.wrap n % 4294967296)) = wrap32 n := by
  rw [IntKind.wrap_u64]; unfold wrap64 wrap32; omega
theorem w_i64 (n : Int) : wrap64 (wrap32 n) = wrap32 n := by unfold wrap64 wrap32; omega

end Go.Proofs.YtgobiejokgcmmaaDoor.Con

namespace Go.Proofs.YtgobiejokgcmmaaDoor.Con
open Go.RowKit

/-- What an operator answers. -/
def opV (op a b : Int) : Int :=
  if op = 1 then wrap32 (wrap32 a + wrap32 b) else if op = 2 then wrap32 (wrap32 a - wrap32 b) else if op = 3 then wrap32 (wrap32 a * wrap32 b)
  else if op = 4 then (if wrap32 b = 0 then 0 else wrap32 ((wrap32 a).tdiv (wrap32 b)))
  else if op = 5 then (if wrap32 a < wrap32 b then 1 else 0) else if op = 6 then (if wrap32 a = wrap32 b then 1 else 0) else 0

theorem w32_lo (n : Int) : -2147483648 ≤ wrap32 n := by unfold wrap32; omega
theorem w32_hi (n : Int) : wrap32 n ≤ 2147483647 := by unfold wrap32; omega
theorem w3264 (n : Int) : wrap32 (wrap64 n) = wrap32 n := by unfold wrap64 wrap32; omega
theorem w32_id (n : Int) (a : -2147483648 ≤ n) (b : n ≤ 2147483647) : wrap32 n = n := by unfold wrap32; omega

/-- 1 for true, 0 for false. -/
def b2i (b : Bool) : Int := if b then 1 else 0

theorem ret_i {a b : Int} (h : a = b) : Ending.returned (.int .i64 a) = .returned (.int .i64 b) := by rw [h]

end Go.Proofs.YtgobiejokgcmmaaDoor.Con

namespace Go.Proofs.YtgobiejokgcmmaaDoor.Con
open Go.RowKit

theorem same_of {P : Program} {f : FuncId} {args : Array Value} {w : World} {v : Value} (h : Calls P f args w fun e w' => e = .returned v ∧ w = w') :
    Calls P f args w fun e w' => e = .returned v ∧ w' = w := h.mono fun _ _ ⟨a, b⟩ => ⟨a, b.symm⟩

/-- Is there such an operator? -/
def isopV (op : Int) : Bool := decide (1 ≤ op ∧ op ≤ 6)
def quoV (x y : Int) : Int := if y = 0 then 0 else wrap64 (x.tdiv y)

end Go.Proofs.YtgobiejokgcmmaaDoor.Con
