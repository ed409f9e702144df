/-
  What is around a comparer: an invariant that holds as long as all was equal, and the blocks that it may change, all of them maps. In general for elements of k cells; no program in it, no condition.
-/
import Derived.Test.YtkpbiifikkbaeaaSm
namespace Go.Proofs.Ytkpbiifikkbaeaa.Con
open Go.RowKit
set_option linter.unusedVariables false

/-- The blocks that a comparer uses: its map, the boxes of treeComparer's closure, those of listComparer's, and the one of the node's comparer. -/
structure Kb where
  M : Nat
  CN : Nat
  CL : Nat
  CK : Nat
  CM : Nat
  CS : Nat
  CD : Nat

structure Srr (M : Nat) (I : World → Prop) (T : Nat → Prop) : Prop where
  own : T M
  gw : ∀ {w w' : World}, I w → Gw w w' → I w'
  isMap : ∀ {w : World} {b : Nat}, I w → T b → b = M ∨ ∃ es cl, w.heap[b]? = some (.map es cl)
  put : ∀ {w w' : World}, I w → Chg w w' (fun b => b = M) → (∀ c, Free w c → w'.heap[c]? = w.heap[c]?) → I w'

section
variable {α : Type} {k : Nat} {cE : α → List Value} {ok : World → α → Prop} {cb : α → List Nat} {same : α → α → Prop} {cnt : α → Nat}
theorem KMp.gw (hf : gFr ok cb) {w w' : World} {M : Nat} {S : Value → Prop} (h : KMp k cE ok cb same w M S) (g : Gw w w') : KMp k cE ok cb same w' M S := by
  have h2 := h
  obtain ⟨es, cl, hm, _⟩ := h2
  exact KMp.stays hf h (g.block _ (Array.getElem?_eq_some_iff.1 hm).1) (fun c h => g.block c h.lt)
theorem Srr.free {M : Nat} {I : World → Prop} {T : Nat → Prop} (R : Srr M I T) {w w' : World} {S : Value → Prop} (hI : I w) (hM : KMp k cE ok cb same w M S) (hc : Chg w w' T) : ∀ c, Free w c → w'.heap[c]? = w.heap[c]? := fun c hf => by
  refine hc.2.2.2.2 c hf.lt fun e => ?_
  obtain ⟨cs, t, hf⟩ := hf
  rcases R.isMap hI e with e | ⟨es, cl, hm⟩
  · obtain ⟨es, cl, hm, _⟩ := hM
    rw [e, hm] at hf; cases hf
  · rw [hm] at hf; cases hf
end

end Go.Proofs.Ytkpbiifikkbaeaa.Con
