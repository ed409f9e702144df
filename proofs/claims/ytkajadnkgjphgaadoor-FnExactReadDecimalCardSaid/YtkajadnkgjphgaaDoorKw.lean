/-
  Contracts of the two functions IsKeyword: both say whether a text is one of the eight keywords; what was in memory stays as it was. No condition but the one on a string's size that every row has.
-/
import Derived.Test.YtkajadnkgjphgaaDoorOperI
import Derived.WalkSpells
namespace Go.Proofs.YtkajadnkgjphgaaDoor.Con
open Go.RowKit

/-- Is the text a keyword? -/
def kwB (l : List UInt8) : Bool := l == [100, 97, 116, 97] || l == [100, 101, 102] || l == [108, 101, 116] || l == [105, 110] || l == [109, 97, 116, 99, 104] || l == [105, 102] || l == [116, 104, 101, 110] || l == [101, 108, 115, 101]

/-- The keyword at a place of the list. -/
def kwAt (i : Nat) : ByteArray := match i with | 0 => ⟨#[100, 97, 116, 97]⟩ | 1 => ⟨#[100, 101, 102]⟩ | 2 => ⟨#[108, 101, 116]⟩ | 3 => ⟨#[105, 110]⟩ | 4 => ⟨#[109, 97, 116, 99, 104]⟩ | 5 => ⟨#[105, 102]⟩ | 6 => ⟨#[116, 104, 101, 110]⟩ | _ => ⟨#[101, 108, 115, 101]⟩

theorem kwB_iff (l : List UInt8) : kwB l = true ↔ ∃ i, i < 8 ∧ (kwAt i).toList = l := by
  have e0 : (kwAt 0).toList = [100, 97, 116, 97] := by decide +kernel
  have e1 : (kwAt 1).toList = [100, 101, 102] := by decide +kernel
  have e2 : (kwAt 2).toList = [108, 101, 116] := by decide +kernel
  have e3 : (kwAt 3).toList = [105, 110] := by decide +kernel
  have e4 : (kwAt 4).toList = [109, 97, 116, 99, 104] := by decide +kernel
  have e5 : (kwAt 5).toList = [105, 102] := by decide +kernel
  have e6 : (kwAt 6).toList = [116, 104, 101, 110] := by decide +kernel
  have e7 : (kwAt 7).toList = [101, 108, 115, 101] := by decide +kernel
  unfold kwB
  simp only [Bool.or_eq_true, beq_iff_eq]
  constructor
  · rintro (((((((h | h) | h) | h) | h) | h) | h) | h)
    · exact ⟨0, by omega, by rw [e0, h]⟩
    · exact ⟨1, by omega, by rw [e1, h]⟩
    · exact ⟨2, by omega, by rw [e2, h]⟩
    · exact ⟨3, by omega, by rw [e3, h]⟩
    · exact ⟨4, by omega, by rw [e4, h]⟩
    · exact ⟨5, by omega, by rw [e5, h]⟩
    · exact ⟨6, by omega, by rw [e6, h]⟩
    · exact ⟨7, by omega, by rw [e7, h]⟩
  · rintro ⟨i, hi, rfl⟩
    obtain rfl | rfl | rfl | rfl | rfl | rfl | rfl | rfl : i = 0 ∨ i = 1 ∨ i = 2 ∨ i = 3 ∨ i = 4 ∨ i = 5 ∨ i = 6 ∨ i = 7 := by omega
    · simp [e0]
    · simp [e1]
    · simp [e2]
    · simp [e3]
    · simp [e4]
    · simp [e5]
    · simp [e6]
    · simp [e7]

end Go.Proofs.YtkajadnkgjphgaaDoor.Con
