/-
  Contracts of the small functions on letters and digits (the model's on bytes, the program's on runes). No condition.
-/
import Derived.Test.YtpafjhnamdeagaaDoorKw
import Derived.PlainAid
namespace Go.Proofs.YtpafjhnamdeagaaDoor.Con
open Go.RowKit

def upB (c : Int) : Bool := decide (65 ≤ c ∧ c ≤ 90)
def loB (c : Int) : Bool := decide (97 ≤ c ∧ c ≤ 122)
def digB (c : Int) : Bool := decide (48 ≤ c ∧ c ≤ 57)
def letB (c : Int) : Bool := upB c || loB c

theorem spec_letter (c : Int) (h0 : 0 ≤ c) (h1 : c ≤ 255) (w : World) : Calls Tryd.prog 126 #[.int .u8 c] w fun e w' => e = .returned (.bool (letB c)) ∧ w = w' := by
  by_cases a1 : 97 ≤ c <;> by_cases a2 : c ≤ 122 <;> by_cases b1 : 65 ≤ c <;> by_cases b2 : c ≤ 90 <;> first
    | (exfalso; omega)
    | (go_enter Tryd.func126, Tryd.ntmps126
       go_wp2
       go_ret
       exact ⟨ret_b (by unfold letB upB loB; simp; omega), rfl⟩)

theorem spec_digit (c : Int) (h0 : 0 ≤ c) (h1 : c ≤ 255) (w : World) : Calls Tryd.prog 128 #[.int .u8 c] w fun e w' => e = .returned (.bool (digB c)) ∧ w = w' := by
  by_cases a1 : 48 ≤ c <;> by_cases a2 : c ≤ 57 <;> first
    | (exfalso; omega)
    | (go_enter Tryd.func128, Tryd.ntmps128
       go_wp2
       go_ret
       exact ⟨ret_b (by unfold digB; simp; omega), rfl⟩)

theorem impl_up (c : Int) (w : World) : Calls Tryd.prog 111 #[.int .i32 c] w fun e w' => e = .returned (.bool (upB c)) ∧ w = w' := by
  by_cases a1 : 65 ≤ c <;> by_cases a2 : c ≤ 90 <;> first
    | (exfalso; omega)
    | (go_enter Tryd.func111, Tryd.ntmps111
       go_wp2
       go_ret
       exact ⟨ret_b (by unfold upB; simp; omega), rfl⟩)

theorem impl_lo (c : Int) (w : World) : Calls Tryd.prog 92 #[.int .i32 c] w fun e w' => e = .returned (.bool (loB c)) ∧ w = w' := by
  by_cases a1 : 97 ≤ c <;> by_cases a2 : c ≤ 122 <;> first
    | (exfalso; omega)
    | (go_enter Tryd.func92, Tryd.ntmps92
       go_wp2
       go_ret
       exact ⟨ret_b (by unfold loB; simp; omega), rfl⟩)

theorem impl_dig (c : Int) (w : World) : Calls Tryd.prog 115 #[.int .i32 c] w fun e w' => e = .returned (.bool (digB c)) ∧ w = w' := by
  by_cases a1 : 48 ≤ c <;> by_cases a2 : c ≤ 57 <;> first
    | (exfalso; omega)
    | (go_enter Tryd.func115, Tryd.ntmps115
       go_wp2
       go_ret
       exact ⟨ret_b (by unfold digB; simp; omega), rfl⟩)

theorem impl_letter (c : Int) (w : World) : Calls Tryd.prog 114 #[.int .i32 c] w fun e w' => e = .returned (.bool (letB c)) ∧ w = w' := by
  cases hu : upB c
  · have F := Lib.hid (show loB c = letB c from by unfold letB; rw [hu]; rfl)
    go_enter Tryd.func114, Tryd.ntmps114
    go_wp2_with (first | (go_at_call 111; refine (impl_up _ _).mono ?_; rintro e w' ⟨rfl, rfl⟩) | (go_at_call 92; refine (impl_lo _ _).mono ?_; rintro e w' ⟨rfl, rfl⟩))
    go_ret
    exact ⟨ret_b F.out, rfl⟩
  · have F := Lib.hid (show true = letB c from by unfold letB; rw [hu]; rfl)
    go_enter Tryd.func114, Tryd.ntmps114
    go_wp2_with (first | (go_at_call 111; refine (impl_up _ _).mono ?_; rintro e w' ⟨rfl, rfl⟩) | (go_at_call 92; refine (impl_lo _ _).mono ?_; rintro e w' ⟨rfl, rfl⟩))
    go_ret
    exact ⟨ret_b F.out, rfl⟩

end Go.Proofs.YtpafjhnamdeagaaDoor.Con
