/-
  The greatest index in a core term, as a function on terms without addresses; contracts of the model's l06Highest and ShiftCore. Condition: the core term lies in memory and, for l06Highest, its numbers are small.
-/
import Derived.Test.YtkpbiifikkbaeaaDoorCoSh
import Derived.Test.YtkpbiifikkbaeaaDoorCoSp
import Derived.Deep.Cut
namespace Go.Proofs.YtkpbiifikkbaeaaDoor.Con
open Go.RowKit
set_option linter.unusedVariables false

def Co.hi : Co → Int
  | .mk k v _ ks => his ks (if k = 1 then v else -1)
where his : List Co → Int → Int
  | [], m => m
  | t :: ts, m => his ts (max m t.hi)
abbrev chis (ks : List Co) (m : Int) : Int := Co.hi.his ks m
theorem hi_eq (t : Co) : t.hi = chis t.ks (if t.k = 1 then t.v else -1) := by cases t; rw [Co.hi]; rfl
theorem chis_nil (m : Int) : chis [] m = m := by simp [chis, Co.hi.his]
theorem chis_app (m : Int) : ∀ (xs : List Co) (m : Int) (t : Co), chis (xs ++ [t]) m = max (chis xs m) t.hi
  | [], m, t => by simp [chis, Co.hi.his]
  | x :: xs, m, t => by simp only [List.cons_append, chis, Co.hi.his]; exact chis_app m xs _ t
theorem chis_take (ks : List Co) (m : Int) (j : Nat) (hj : j < ks.length) : chis (ks.take (j + 1)) m = max (chis (ks.take j) m) ks[j].hi := by
  rw [List.take_succ_eq_append_getElem hj, chis_app m]

end Go.Proofs.YtkpbiifikkbaeaaDoor.Con
