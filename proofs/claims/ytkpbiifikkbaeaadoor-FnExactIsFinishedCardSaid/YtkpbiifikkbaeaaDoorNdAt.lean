/-
  Closures, frames, cells and states that lie at an address. No program in it, no condition.
-/
import Derived.Test.YtkpbiifikkbaeaaDoorNd
namespace Go.Proofs.YtkpbiifikkbaeaaDoor.Con
open Go.RowKit
set_option linter.unusedVariables false

/-- An element that lies at an address. -/
def gAt {α : Type} (cE : α → List Value) (ok : World → α → Prop) (w : World) (b o : Nat) (x : α) : Prop := (∀ j v, (cE x)[j]? = some v → w.cell? ⟨b, o + j, none⟩ = some v) ∧ ok w x
theorem gAt.grow {α : Type} {cE : α → List Value} {ok : World → α → Prop} (hg : gGr ok) {w w' : World} {b o : Nat} {x : α} (h : gAt cE ok w b o x) (g : Gw w w') : gAt cE ok w' b o x :=
  ⟨fun j v hv => (World.cell?_of_block (a := ⟨b, o + j, none⟩) (g.block b (cell_lt (h.1 j v hv)))).trans (h.1 j v hv), hg _ _ _ h.2 g⟩
theorem gAt.sub {α β : Type} {cE : α → List Value} {ok : World → α → Prop} {cE2 : β → List Value} {ok2 : World → β → Prop} {w : World} {b o : Nat} {x : α} {y : β} (h : gAt cE ok w b o x) (d : Nat) (hs : ∀ j v, (cE2 y)[j]? = some v → (cE x)[j + d]? = some v) (ho : ok2 w y) : gAt cE2 ok2 w b (o + d) y :=
  ⟨fun j v hv => by have := h.1 (j + d) v (hs j v hv); rwa [show o + (j + d) = o + d + j by omega] at this, ho⟩
theorem gAt.row {α : Type} {k : Nat} {cE : α → List Value} {ok : World → α → Prop} {w : World} {a : Option Addr} {c : Nat} {xs : List α} (h : gSl k cE ok w a c xs) (j : Nat) (hj : j < xs.length) : ∃ b o, a = some ⟨b, o, none⟩ ∧ gAt cE ok w b (o + j * k) xs[j] := by
  obtain ⟨b, o, ha, hr⟩ := h.2.2.resolve_left (fun e => by rw [e] at hj; simp at hj)
  exact ⟨b, o, ha, hr j hj⟩
theorem gAt.new {α : Type} {cE : α → List Value} {ok : World → α → Prop} (hg : gGr ok) {w : World} {x : α} {cs : Array Value} {e : TypeId} (hc : cs.toList = cE x) (h : ok w x) : gAt cE ok (w.alloc (.cells cs e)) w.heap.size 0 x :=
  ⟨fun j v hv => by rw [Nat.zero_add, cell_of_row _ _ j _ _ _ (heap_alloc_new w _), ← Array.getElem?_toList, hc]; exact hv, hg _ _ _ h ((Gw.refl w).alloc _)⟩
abbrev clAt (w : World) (b o : Nat) (u : LCl) : Prop := gAt clE clOk w b o u
abbrev frAt (w : World) (b o : Nat) (u : LFr) : Prop := gAt frE frOk w b o u
abbrev thAt (w : World) (b o : Nat) (u : LTh) : Prop := gAt thE thOk w b o u
abbrev ndAt (w : World) (b o : Nat) (u : LNd) : Prop := gAt ndE ndOk w b o u
theorem gAt.t {w : World} {b o : Nat} {u : LCl} (h : clAt w b o u) : coAt w b o u.t :=
  ⟨fun j v hv => h.1 j v (by match j, hv with | 0, hv => exact hv | 1, hv => exact hv | 2, hv => exact hv | 3, hv => exact hv | n + 4, hv => exact absurd hv (by simp [coE])), h.2.1⟩
theorem gAt.fc {w : World} {b o : Nat} {u : LFr} (h : frAt w b o u) : clAt w b (o + 3) u.c :=
  h.sub 3 (fun j v hv => by match j, hv with | 0, hv => exact hv | 1, hv => exact hv | 2, hv => exact hv | 3, hv => exact hv | 4, hv => exact hv | n + 5, hv => exact absurd hv (by simp [clE])) h.2.2.2.2
theorem gAt.hc {w : World} {b o : Nat} {u : LTh} (h : thAt w b o u) : clAt w b (o + 1) u.c :=
  h.sub 1 (fun j v hv => by match j, hv with | 0, hv => exact hv | 1, hv => exact hv | 2, hv => exact hv | 3, hv => exact hv | 4, hv => exact hv | n + 5, hv => exact absurd hv (by simp [clE])) h.2
theorem gAt.nc {w : World} {b o : Nat} {u : LNd} (h : ndAt w b o u) : clAt w b o u.c :=
  ⟨fun j v hv => h.1 j v (by match j, hv with | 0, hv => exact hv | 1, hv => exact hv | 2, hv => exact hv | 3, hv => exact hv | 4, hv => exact hv | n + 5, hv => exact absurd hv (by simp [clE])), h.2.1⟩
theorem gAt.lt {α : Type} {cE : α → List Value} {ok : World → α → Prop} {w : World} {b o : Nat} {x : α} {v : Value} {t : List Value} (h : gAt cE ok w b o x) (hv : cE x = v :: t) : b < w.heap.size := cell_lt (h.1 0 v (by rw [hv]; rfl))

end Go.Proofs.YtkpbiifikkbaeaaDoor.Con
