/-
  Contracts of the two wrapping functions (the model's and the program's): both answer the only number from -2147483648 to 2147483647 that differs from the argument by a multiple of 4294967296. No condition.
-/
import Derived.Test.YtpafjhnamdeagaaDoorBase
namespace Go.Proofs.YtpafjhnamdeagaaDoor.Con
open Go.RowKit

theorem w_u64 (n : Int) : wrap64 (wrap32 (IntKind.u64.wrap n % 4294967296)) = wrap32 n := by
  rw [IntKind.wrap_u64]; unfold wrap64 wrap32; omega
theorem w_i64 (n : Int) : wrap64 (wrap32 n) = wrap32 n := by unfold wrap64 wrap32; omega

end Go.Proofs.YtpafjhnamdeagaaDoor.Con
