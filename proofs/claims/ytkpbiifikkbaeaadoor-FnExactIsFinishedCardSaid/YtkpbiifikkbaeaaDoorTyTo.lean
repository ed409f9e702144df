/-
  The laws' own functions toType and toTypeS: a type that came in is laid anew in new memory. No condition but that the type can be read and is not too large.
-/
import Derived.Test.YtkpbiifikkbaeaaDoorTyNew
import Derived.Outline
import Derived.LoopTactic
import Derived.Lib.Hide
import Derived.Laws.MakeOwn
import Derived.Laws.Rows
namespace Go.Proofs.YtkpbiifikkbaeaaDoor.Con
open Go.RowKit

def ToPost (w : World) (t : LT) (e : Ending) (w' : World) : Prop := ∃ u : LT, e = .returned u.val ∧ u.ty = t.ty ∧ u.New w.heap.size w' ∧ Gw w w'
def ToPostS (w : World) (ks : List LT) (e : Ending) (w' : World) : Prop := ∃ (us : List LT) (a : Option Addr) (cap : Nat), e = .returned (.slice a us.length cap) ∧ us.map LT.ty = ks.map LT.ty ∧ slNew w.heap.size w' a cap us ∧ Gw w w'

theorem bcell {W w1 : World} (hb : Below W.heap.size W w1) : (∀ b o, b < W.heap.size → w1.cell? ⟨b, o, none⟩ = W.cell? ⟨b, o, none⟩) ∧ (∀ b o, b < W.heap.size → w1.frozen? ⟨b, o, none⟩ = W.frozen? ⟨b, o, none⟩) :=
  ⟨fun b o h => hb.cell (p := ⟨b, o, none⟩) h, fun b o h => hb.frozen (p := ⟨b, o, none⟩) h⟩

theorem ret_sl {a : Option Addr} {n m c : Nat} (h : n = m) : Ending.returned (.slice a n c) = .returned (.slice a m c) := by rw [h]

theorem hfl {w : World} {g n : Nat} {us : List LT} (h : Fill w g n us) : g < w.heap.size := by
  obtain ⟨_, ⟨cs, e, h1, _⟩, _⟩ := h
  exact (Array.getElem?_eq_some_iff.1 h1).1

end Go.Proofs.YtkpbiifikkbaeaaDoor.Con
