/-
  The laws' own functions on a type that came in: szType counts it, or says -1. No condition but that the type can be read.
-/
import Derived.Test.YtkpbiifikkbaeaaDoorTy
import Derived.Outline
import Derived.LoopTactic
import Derived.Lib.Hide
namespace Go.Proofs.YtkpbiifikkbaeaaDoor.Con
open Go.RowKit

/-- What szType answers. -/
def szR (left : Int) (s : Nat) : Int := if (s : Int) ≤ left then left - s else -1

theorem sz_rest (ks : List LT) (i : Nat) (hi : i < ks.length) : LT.sz.szl (ks.take (i + 1)) + (ks.length - (i + 1)) ≤ LT.sz.szl ks := by
  induction ks generalizing i with
  | nil => simp at hi
  | cons t ts ih =>
    cases i with
    | zero => simp only [List.take_succ_cons, LT.sz.szl, List.take_zero, List.length_cons]; have := szl_ge ts; omega
    | succ i => simp only [List.take_succ_cons, LT.sz.szl, List.length_cons]; have := ih i (by simpa using hi); omega

end Go.Proofs.YtkpbiifikkbaeaaDoor.Con
