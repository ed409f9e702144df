/-
  Contracts of the two functions Operate (the model's and the program's): both answer 'opV op a b', for all integers. No condition.
-/
import Derived.Test.YtgpnicgjlljkdaaDoorWrap
import Derived.Deep.QuietTactic
import Derived.BigQuiet
import Derived.Lib.Hide
namespace Go.Proofs.YtgpnicgjlljkdaaDoor.Con
open Go.RowKit

/-- What an operator answers. -/
def opV (op a b : Int) : Int :=
  if op = 1 then wrap32 (wrap32 a + wrap32 b) else if op = 2 then wrap32 (wrap32 a - wrap32 b) else if op = 3 then wrap32 (wrap32 a * wrap32 b)
  else if op = 4 then (if wrap32 b = 0 then 0 else wrap32 ((wrap32 a).tdiv (wrap32 b)))
  else if op = 5 then (if wrap32 a < wrap32 b then 1 else 0) else if op = 6 then (if wrap32 a = wrap32 b then 1 else 0) else 0

theorem w32_lo (n : Int) : -2147483648 ≤ wrap32 n := by unfold wrap32; omega
theorem w32_hi (n : Int) : wrap32 n ≤ 2147483647 := by unfold wrap32; omega
theorem w3264 (n : Int) : wrap32 (wrap64 n) = wrap32 n := by unfold wrap64 wrap32; omega
theorem w32_id (n : Int) (a : -2147483648 ≤ n) (b : n ≤ 2147483647) : wrap32 n = n := by unfold wrap32; omega

/-- 1 for true, 0 for false. -/
def b2i (b : Bool) : Int := if b then 1 else 0

theorem ret_i {a b : Int} (h : a = b) : Ending.returned (.int .i64 a) = .returned (.int .i64 b) := by rw [h]

end Go.Proofs.YtgpnicgjlljkdaaDoor.Con
