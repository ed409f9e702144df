/-
  A block that holds a term. No program in it, no condition.
-/
import Derived.Test.YtpafjhnamdeagaaTmNew
import Derived.Test.YtpafjhnamdeagaaTyBox
namespace Go.Proofs.Ytpafjhnamdeagaa.Con
open Go.RowKit
set_option linter.unusedVariables false

/-- A block holds a term. -/
def BoxM (W : World) (b : Nat) (u : LM) : Prop := ∃ e, W.heap[b]? = some (.cells #[.int .i64 u.k, .int .i64 u.m, .string u.n, .int .i64 u.t.k, .string u.t.n, .slice u.t.a u.t.ks.length u.t.cap, .slice u.na u.ns.length u.nc, .slice u.a u.ks.length u.cap] e (0, 0))
theorem BoxM.new (W : World) (u : LM) (e : TypeId) : BoxM (W.alloc (.cells #[.int .i64 u.k, .int .i64 u.m, .string u.n, .int .i64 u.t.k, .string u.t.n, .slice u.t.a u.t.ks.length u.t.cap, .slice u.na u.ns.length u.nc, .slice u.a u.ks.length u.cap] e)) W.heap.size u := ⟨e, heap_alloc_new W _⟩
theorem BoxM.lt {W : World} {b : Nat} {u : LM} (h : BoxM W b u) : b < W.heap.size := by
  obtain ⟨e, h⟩ := h
  exact (Array.getElem?_eq_some_iff.1 h).1
theorem BoxM.same {W W' : World} {b : Nat} {u : LM} (h : BoxM W b u) (hs : W'.heap[b]? = W.heap[b]?) : BoxM W' b u := by
  obtain ⟨e, h⟩ := h
  exact ⟨e, hs.trans h⟩
theorem BoxM.grow {W W' : World} {b : Nat} {u : LM} (h : BoxM W b u) (g : Gw W W') : BoxM W' b u := h.same (g.block b h.lt)
theorem BoxM.c {W : World} {b : Nat} {u : LM} (h : BoxM W b u) : W.cell? ⟨b, 0, none⟩ = some (.int .i64 u.k) ∧ W.cell? ⟨b, 1, none⟩ = some (.int .i64 u.m) ∧ W.cell? ⟨b, 2, none⟩ = some (.string u.n) ∧
    W.cell? ⟨b, 3, none⟩ = some (.int .i64 u.t.k) ∧ W.cell? ⟨b, 4, none⟩ = some (.string u.t.n) ∧ W.cell? ⟨b, 5, none⟩ = some (.slice u.t.a u.t.ks.length u.t.cap) ∧
    W.cell? ⟨b, 6, none⟩ = some (.slice u.na u.ns.length u.nc) ∧ W.cell? ⟨b, 7, none⟩ = some (.slice u.a u.ks.length u.cap) := by
  obtain ⟨e, h⟩ := h
  exact ⟨cell_of_row _ _ 0 _ _ _ h, cell_of_row _ _ 1 _ _ _ h, cell_of_row _ _ 2 _ _ _ h, cell_of_row _ _ 3 _ _ _ h, cell_of_row _ _ 4 _ _ _ h, cell_of_row _ _ 5 _ _ _ h, cell_of_row _ _ 6 _ _ _ h, cell_of_row _ _ 7 _ _ _ h⟩

end Go.Proofs.Ytpafjhnamdeagaa.Con
