/-
  Contract of the model's l02Known: a type names only declared data. No condition but that both lie in memory.
-/
import Derived.Test.YtbjedfbpikfflaaGreatDoorDaIx
import Derived.Test.YtbjedfbpikfflaaGreatDoorTySpec
namespace Go.Proofs.YtbjedfbpikfflaaGreatDoor.Con
open Go.RowKit
set_option linter.unusedVariables false

/-- All names of data, as far as the model looks, are among the names. -/
def Ty.known (ns : List ByteArray) : Ty → Bool
  | .mk k n ks => if k = 2 then ns.any (fun x => x.toList == n.toList) else kn ks
where kn : List Ty → Bool
  | [] => true
  | t :: ts => t.known ns && kn ts
theorem known_data {ns : List ByteArray} {t : LT} (h : t.k = 2) {r : Int} (hr : IsIx t.n ns r) : t.ty.known ns = decide (0 ≤ r) := by
  rw [LT.ty_eq, Ty.known, if_pos h]
  rcases hr with ⟨j, rfl, h1, _⟩ | ⟨rfl, h1⟩
  · have : (ns.any fun x => x.toList == t.n.toList) = true := List.any_eq_true.2 ⟨t.n, List.mem_of_getElem? h1, by simp⟩
    rw [this]; simp
  · have : (ns.any fun x => x.toList == t.n.toList) = false := List.any_eq_false.2 fun x hx => by
      obtain ⟨i, hi, rfl⟩ := List.mem_iff_getElem.1 hx
      have : ¬ ns[i] = t.n := fun e => h1 i (by rw [List.getElem?_eq_getElem hi, e])
      rw [toList_ne this]; simp
    rw [this]; simp
theorem known_other {ns : List ByteArray} {t : LT} (h : ¬ t.k = 2) : t.ty.known ns = t.ks.all fun u => u.ty.known ns := by
  rw [LT.ty_eq, Ty.known, if_neg h]
  induction t.ks with
  | nil => rfl
  | cons u us ih => simp only [List.map_cons, Ty.known.kn, List.all_cons, ih]

end Go.Proofs.YtbjedfbpikfflaaGreatDoor.Con
