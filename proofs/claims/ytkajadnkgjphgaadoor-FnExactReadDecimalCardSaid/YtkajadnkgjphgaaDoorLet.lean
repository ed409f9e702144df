/-
  Contracts of the small functions on letters and digits (the model's on bytes, the program's on runes). No condition.
-/
import Derived.Test.YtkajadnkgjphgaaDoorKw
import Derived.PlainAid
namespace Go.Proofs.YtkajadnkgjphgaaDoor.Con
open Go.RowKit

def upB (c : Int) : Bool := decide (65 ≤ c ∧ c ≤ 90)
def loB (c : Int) : Bool := decide (97 ≤ c ∧ c ≤ 122)
def digB (c : Int) : Bool := decide (48 ≤ c ∧ c ≤ 57)
def letB (c : Int) : Bool := upB c || loB c

theorem spec_digit (c : Int) (h0 : 0 ≤ c) (h1 : c ≤ 255) (w : World) : Calls Tryd.prog 25 #[.int .u8 c] w fun e w' => e = .returned (.bool (digB c)) ∧ w = w' := by
  by_cases a1 : 48 ≤ c <;> by_cases a2 : c ≤ 57 <;> first
    | (exfalso; omega)
    | (go_enter Tryd.func25, Tryd.ntmps25
       go_wp2
       go_ret
       exact ⟨ret_b (by unfold digB; simp; omega), rfl⟩)

end Go.Proofs.YtkajadnkgjphgaaDoor.Con
