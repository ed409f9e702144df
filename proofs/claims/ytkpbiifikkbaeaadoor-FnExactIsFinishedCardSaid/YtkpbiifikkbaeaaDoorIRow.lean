/-
  Rows of whole numbers in blocks of the call's own. No program in it but the number of a type; no condition.
-/
import Derived.Test.YtkpbiifikkbaeaaDoorTyBox
import Derived.Test.YtkpbiifikkbaeaaDoorCo
import Derived.StillTailTactics
import Derived.BigQuiet
namespace Go.Proofs.YtkpbiifikkbaeaaDoor.Con
open Go.RowKit
set_option linter.unusedVariables false

theorem own_chgI {w w' : World} {B : Nat} {e : TypeId} {size n : Nat} {v : Value} {xs : List Value} {S : Nat → Prop} (h : w.ownsRow B e size v n xs) (hc : Chg w w' S) (hS : ∀ g, v.ownBlock = some g → ¬ S g) : w'.ownsRow B e size v n xs := by
  obtain ⟨hl, h⟩ := h
  refine ⟨hl, ?_⟩
  rcases h with h | ⟨g, cap, cur, rfl, hb, hg, hr⟩
  · exact .inl h
  · exact .inr ⟨g, cap, cur, rfl, hb, (hc.2.2.2.2 g (Array.getElem?_eq_some_iff.1 hg).1 (hS g rfl)).trans hg, hr⟩
def iL (L : List Int) : List Value := L.map fun n => Value.int .i64 n
/-- v is a slice of the numbers L in a block from B on. -/
def IRow (B : Nat) (w : World) (v : Value) (L : List Int) : Prop := w.ownsRow B 2 1 v L.length (iL L)
theorem IRow.nil (B : Nat) (w : World) : IRow B w (.slice none 0 0) [] := ⟨rfl, .inl ⟨rfl, rfl⟩⟩
theorem IRow.form {B : Nat} {w : World} {v : Value} {L : List Int} (h : IRow B w v L) : ∃ a cap, v = .slice a L.length cap := by
  rcases h.2 with ⟨rfl, h0⟩ | ⟨g, cap, _, rfl, _⟩
  · exact ⟨none, 0, by rw [h0]⟩
  · exact ⟨_, cap, rfl⟩
theorem IRow.at {B : Nat} {w : World} {v : Value} {L : List Int} (h : IRow B w v L) : ∀ g, v.ownBlock = some g → B ≤ g ∧ g < w.heap.size := fun g hg => h.lt g hg
theorem IRow.chg {B : Nat} {w w' : World} {v : Value} {L : List Int} {S : Nat → Prop} (h : IRow B w v L) (hc : Chg w w' S) (hS : ∀ g, v.ownBlock = some g → ¬ S g) : IRow B w' v L := own_chgI h hc hS
theorem IRow.grow {B : Nat} {w w' : World} {v : Value} {L : List Int} (h : IRow B w v L) (g : Gw w w') : IRow B w' v L := h.chg (Chg.of_gw g (fun _ => False)) (fun _ _ h => h)
theorem IRow.mono {B B' : Nat} {w : World} {v : Value} {L : List Int} (h : IRow B w v L) (hB : B' ≤ B) : IRow B' w v L := by
  obtain ⟨h1, h2⟩ := h
  refine ⟨h1, h2.imp id fun ⟨g, cap, cur, e, hb, hr⟩ => ⟨g, cap, cur, e, by omega, hr⟩⟩
theorem IRow.cell {B n c : Nat} {w : World} {a : Option Addr} {L : List Int} (h : IRow B w (.slice a n c) L) (i : Nat) (hi : i < L.length) : ∃ g, a = some ⟨g, 0, none⟩ ∧ w.cell? ⟨g, i, none⟩ = some (.int .i64 L[i]) ∧ Free w g ∧ B ≤ g := by
  rcases h.2 with ⟨hv, h0⟩ | ⟨g, cap, cur, hv, hb, hg, hr⟩
  · omega
  · injection hv with ha
    subst ha
    refine ⟨g, rfl, ?_, ⟨_, _, hg⟩, hb⟩
    have := World.ownsRow.cells h (g := g) rfl i (.int .i64 L[i]) (by unfold iL; rw [List.getElem?_map, List.getElem?_eq_getElem hi]; rfl)
    have hadd : (⟨g, 0, none⟩ : Addr).add i = ⟨g, i, none⟩ := by unfold Addr.add; split <;> simp_all
    rwa [hadd] at this
theorem IRow.len {B n c : Nat} {w : World} {a : Option Addr} {L : List Int} (h : IRow B w (.slice a n c) L) : n = L.length ∧ L.length ≤ 9223372036854775807 := by
  rcases h.2 with ⟨hv, h0⟩ | ⟨g, cap, cur, hv, hb, hg, hn, hc, hr⟩
  · injection hv with _ hn
    omega
  · injection hv with _ h2
    have : maxLen = 9223372036854775807 := rfl
    omega
/-- One number is written anew. -/
theorem IRow.put {B c : Nat} {w : World} {g : Nat} {L : List Int} (h : IRow B w (.slice (some ⟨g, 0, none⟩) L.length c) L) (i : Nat) (hi : i < L.length) (x : Int) : IRow B (w.setCell ⟨g, i, none⟩ (.int .i64 x)) (.slice (some ⟨g, 0, none⟩) L.length c) (L.set i x) := by
  obtain ⟨h1, h2⟩ := h
  rcases h2 with ⟨hv, h0⟩ | ⟨g', cap, cur, hv, hb, hg, hn, hc, hs, ht⟩
  · cases hv
  · injection hv with ha _ hcap
    injection ha with ha
    injection ha with hgg
    subst hgg hcap
    refine ⟨by simp [iL], .inr ⟨g, c, cur.setIfInBounds i (.int .i64 x), by rw [List.length_set], hb, ?_, by rw [List.length_set]; exact hn, hc, by simpa using hs, ?_⟩⟩
    · simp [World.setCell, Array.getElem?_modify, hg]
    · rw [List.length_set, Array.toList_setIfInBounds, List.take_set, ht]
      unfold iL
      rw [List.map_set]

end Go.Proofs.YtkpbiifikkbaeaaDoor.Con
