/-
  Contracts of the two wrapping functions (the model's and the program's): both answer the only number from -2147483648 to 2147483647 that differs from the argument by a multiple of 4294967296. No condition.
-/
import Derived.Test.YtgpnicgjlljkdaaDoorBase
namespace Go.Proofs.YtgpnicgjlljkdaaDoor.Con
open Go.RowKit

theorem w_u64 (n : Int) : wrap64 (wrap32 (IntKind.u64.wrap n % 4294967296)) = wrap32 n := by
  rw [IntKind.wrap_u64]; unfold wrap64 wrap32; omega
theorem w_i64 (n : Int) : wrap64 (wrap32 n) = wrap32 n := by unfold wrap64 wrap32; omega

theorem spec_wrap32 (n : Int) (w : World) :
    Calls Tryd.prog 13 #[.int .i64 n] w fun e w' => e = .returned (.int .i64 (wrap32 n)) ∧ w = w' := by
  go_enter Tryd.func13, Tryd.ntmps13
  go_wp2
  go_ret
  exact ⟨congrArg (fun x => Ending.returned (.int .i64 x)) (w_u64 n), rfl⟩

end Go.Proofs.YtgpnicgjlljkdaaDoor.Con
