/-
  The laws' own functions szConstructor, szConstructorS, szData, szDataS: they count, or say -1. No condition but that the list can be read.
-/
import Derived.Test.YtkpbiifikkbaeaaDoorDa
import Derived.Test.YtkpbiifikkbaeaaDoorTySz
namespace Go.Proofs.YtkpbiifikkbaeaaDoor.Con
open Go.RowKit
set_option linter.unusedVariables false

/-- The count of a row. -/
def sm {α : Type} (z : α → Nat) (xs : List α) : Nat := (xs.map fun c => 1 + z c).sum
theorem sm_cons {α : Type} (z : α → Nat) (x : α) (xs : List α) : sm z (x :: xs) = 1 + z x + sm z xs := by simp [sm]
theorem sm_nil {α : Type} (z : α → Nat) : sm z [] = 0 := by simp [sm]
theorem sm_take {α : Type} (z : α → Nat) (ks : List α) (i : Nat) (hi : i < ks.length) : sm z (ks.take (i + 1)) = sm z (ks.take i) + 1 + z ks[i] := by
  induction ks generalizing i with
  | nil => simp at hi
  | cons t ts ih =>
    cases i with
    | zero => simp [sm_cons, sm_nil]
    | succ i => simp only [List.take_succ_cons, sm_cons, List.getElem_cons_succ]; have := ih i (by simpa using hi); omega
theorem sm_ge {α : Type} (z : α → Nat) (ks : List α) : ks.length ≤ sm z ks := by
  induction ks with
  | nil => simp
  | cons t ts ih => simp only [List.length_cons, sm_cons]; omega
theorem sm_rest {α : Type} (z : α → Nat) (ks : List α) (i : Nat) (hi : i < ks.length) : sm z (ks.take (i + 1)) + (ks.length - (i + 1)) ≤ sm z ks := by
  induction ks generalizing i with
  | nil => simp at hi
  | cons t ts ih =>
    cases i with
    | zero => simp only [List.take_succ_cons, sm_cons, List.take_zero, sm_nil, List.length_cons]; have := sm_ge z ts; omega
    | succ i => simp only [List.take_succ_cons, sm_cons, List.length_cons]; have := ih i (by simpa using hi); omega
theorem sm_mem {α : Type} (z : α → Nat) {ks : List α} {t : α} (h : t ∈ ks) : 1 + z t ≤ sm z ks := by
  induction ks with
  | nil => cases h
  | cons u us ih =>
    rw [sm_cons]
    rcases List.mem_cons.1 h with rfl | h
    · omega
    · have := ih h; omega

end Go.Proofs.YtkpbiifikkbaeaaDoor.Con
