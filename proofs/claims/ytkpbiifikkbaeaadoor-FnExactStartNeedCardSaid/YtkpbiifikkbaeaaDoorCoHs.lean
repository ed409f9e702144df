/-
  Contract of the model's ShiftCore. Condition: the core term lies in memory.
-/
import Derived.Test.YtkpbiifikkbaeaaDoorCoHi
namespace Go.Proofs.YtkpbiifikkbaeaaDoor.Con
open Go.RowKit
set_option linter.unusedVariables false

/-- The code and the core term that ShiftCore gives back. -/
def shCd (t : Co) (n f : Int) : Int := if okC t = true then (if (inV n 0 64 && inV f 0 255) = true then (if 255 < (t.sh n f).hi then 2 else 0) else 2) else 1
def zeC : Co := .mk 0 0 [] []
def shRs (t : Co) (n f : Int) : Co := if shCd t n f = 0 then t.sh n f else zeC
def ShP (w : World) (t : Co) (n f : Int) (e : Ending) (w' : World) : Prop := ∃ x : LK, e = .returned (.tuple #[x.val, .int .i64 (shCd t n f)]) ∧ x.co = shRs t n f ∧ x.New w.heap.size w' ∧ Gw w w'
def zeK : LK := .mk 0 0 none 0 [] none 0 []
theorem zeK_new (B : Nat) (w : World) : zeK.New B w := LK.new_mk (B := B) (B1 := B) (B2 := B) (by unfold cin64; omega) (by unfold cin64; omega) ⟨⟨Nat.le_refl _, Nat.zero_le _, .inl rfl⟩, by simp [nbl], fun b hb => by simp [nbl] at hb⟩ (coNew_nil B w) (fun b hb => by simp [nbl] at hb) (Nat.le_refl _) (Nat.le_refl _)

theorem by_four {w w2 : World} (h : Gw w w2) {x0 x1 x2 x3 : Value} : Gw w ((((w2.setCell ⟨w.heap.size + 1, 0, none⟩ x0).setCell ⟨w.heap.size + 1, 1, none⟩ x1).setCell ⟨w.heap.size + 1, 2, none⟩ x2).setCell ⟨w.heap.size + 1, 3, none⟩ x3) :=
  (((Below.setCell h (Nat.le_succ _) _).setCell (Nat.le_succ _) _).setCell (Nat.le_succ _) _).setCell (Nat.le_succ _) _

end Go.Proofs.YtkpbiifikkbaeaaDoor.Con
