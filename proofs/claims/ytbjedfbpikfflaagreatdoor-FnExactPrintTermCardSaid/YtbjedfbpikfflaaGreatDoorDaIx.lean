/-
  The place of a name among declarations: the model's l02Named and the program's dataIndex. No condition but that the list lies in memory.
-/
import Derived.Test.YtbjedfbpikfflaaGreatDoorDaEq
import Derived.Outline
import Derived.LoopTactic
namespace Go.Proofs.YtbjedfbpikfflaaGreatDoor.Con
open Go.RowKit
set_option linter.unusedVariables false

/-- r is the first place of the name, or -1. -/
def IsIx (nm : ByteArray) (ns : List ByteArray) (r : Int) : Prop := (∃ j : Nat, r = j ∧ ns[j]? = some nm ∧ ∀ i, i < j → ns[i]? ≠ some nm) ∨ (r = -1 ∧ ∀ i : Nat, ns[i]? ≠ some nm)
theorem IsIx.uniq {nm : ByteArray} {ns : List ByteArray} {r s : Int} (h : IsIx nm ns r) (k : IsIx nm ns s) : r = s := by
  rcases h with ⟨j, rfl, h1, h2⟩ | ⟨rfl, h⟩ <;> rcases k with ⟨j', rfl, k1, k2⟩ | ⟨rfl, k⟩
  · rcases Nat.lt_trichotomy j j' with hl | rfl | hl
    · exact absurd h1 (k2 j hl)
    · rfl
    · exact absurd k1 (h2 j' hl)
  · exact absurd h1 (k j)
  · exact absurd k1 (h j')
  · rfl

def IxGw (nm : ByteArray) (ns : List ByteArray) (w : World) (e : Ending) (w' : World) : Prop := ∃ r : Int, e = .returned (.int .i64 r) ∧ IsIx nm ns r ∧ Gw w w'

theorem ix_found {α : Type} {nm : ByteArray} {ds : List (LN α)} {j : Nat} (hj : j < ds.length) (h : ds[j].n = nm) (hb : ∀ i (hi : i < ds.length), i < j → ds[i].n ≠ nm) : IsIx nm (ds.map LN.n) j :=
  .inl ⟨j, rfl, by rw [List.getElem?_map, List.getElem?_eq_getElem hj]; simp [h], fun i hi e => by
    rw [List.getElem?_map, List.getElem?_eq_getElem (by omega : i < ds.length)] at e
    exact hb i (by omega) hi (by simpa using e)⟩
theorem ix_none {α : Type} {nm : ByteArray} {ds : List (LN α)} (hb : ∀ i (hi : i < ds.length), ds[i].n ≠ nm) : IsIx nm (ds.map LN.n) (-1) :=
  .inr ⟨rfl, fun i e => by
    rcases Nat.lt_or_ge i ds.length with hi | hi
    · rw [List.getElem?_map, List.getElem?_eq_getElem hi] at e
      exact hb i hi (by simpa using e)
    · rw [List.getElem?_map, List.getElem?_eq_none hi] at e
      cases e⟩

theorem toList_ne {a b : ByteArray} (h : ¬ a = b) : (a.toList == b.toList) = false := by
  simp only [beq_eq_false_iff_ne, ne_eq]
  exact fun e => h (by rw [ByteArray.toList_eq, ByteArray.toList_eq] at e; exact ByteArray.ext (Array.ext' e))

end Go.Proofs.YtbjedfbpikfflaaGreatDoor.Con
