/-
  The laws' own functions eqConstructor, eqConstructorS, eqData, eqDataS: of declarations that say the same they answer true. No condition but that both lie in memory.
-/
import Derived.Test.YtbjedfbpikfflaaGreatDoorDaTo
import Derived.Test.YtbjedfbpikfflaaGreatDoorTyEq
namespace Go.Proofs.YtbjedfbpikfflaaGreatDoor.Con
open Go.RowKit
set_option linter.unusedVariables false

theorem map_len_of {α β : Type} {f : α → β} {xs ys : List α} (h : xs.map f = ys.map f) : xs.length = ys.length := by simpa using congrArg List.length h
theorem map_get_of {α β : Type} {f : α → β} {xs ys : List α} (h : xs.map f = ys.map f) (i : Nat) (hx : i < xs.length) (hy : i < ys.length) : f xs[i] = f ys[i] := by
  have := congrArg (fun l => l[i]?) h
  simpa [List.getElem?_map, List.getElem?_eq_getElem hx, List.getElem?_eq_getElem hy] using this

end Go.Proofs.YtbjedfbpikfflaaGreatDoor.Con
