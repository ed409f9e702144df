/-
  Contracts of the two wrapping functions (the model's and the program's): both answer the only number from -2147483648 to 2147483647 that differs from the argument by a multiple of 4294967296. No condition.
  Contracts of the two functions Operate (the model's and the program's): both answer 'opV op a b', for all integers. No condition.
  Contract of the program's function Operate: it answers 'opV op a b', for all integers; what was in memory before stays as it was. No condition.
-/
import Derived.Test.YtfbgkbgoooepmaaDoorBase
import Derived.Deep.QuietTactic
import Derived.BigQuiet
import Derived.Lib.Hide
import Derived.Laws.EntriesVeiled
namespace Go.Proofs.YtfbgkbgoooepmaaDoor.Con
open Go.RowKit

theorem w_u64 (n : Int) : wrap64 (wrap32 (IntKind.u64.wrap n % 4294967296)) = wrap32 n := by
  rw [IntKind.wrap_u64]; unfold wrap64 wrap32; omega
theorem w_i64 (n : Int) : wrap64 (wrap32 n) = wrap32 n := by unfold wrap64 wrap32; omega

theorem spec_wrap32 (n : Int) (w : World) :
    Calls Tryd.prog 134 #[.int .i64 n] w fun e w' => e = .returned (.int .i64 (wrap32 n)) ∧ w = w' := by
  go_enter Tryd.func134, Tryd.ntmps134
  go_wp2
  go_ret
  exact ⟨congrArg (fun x => Ending.returned (.int .i64 x)) (w_u64 n), rfl⟩

end Go.Proofs.YtfbgkbgoooepmaaDoor.Con

namespace Go.Proofs.YtfbgkbgoooepmaaDoor.Con
open Go.RowKit

/-- What an operator answers. -/
def opV (op a b : Int) : Int :=
  if op = 1 then wrap32 (wrap32 a + wrap32 b) else if op = 2 then wrap32 (wrap32 a - wrap32 b) else if op = 3 then wrap32 (wrap32 a * wrap32 b)
  else if op = 4 then (if wrap32 b = 0 then 0 else wrap32 ((wrap32 a).tdiv (wrap32 b)))
  else if op = 5 then (if wrap32 a < wrap32 b then 1 else 0) else if op = 6 then (if wrap32 a = wrap32 b then 1 else 0) else 0

theorem w32_lo (n : Int) : -2147483648 ≤ wrap32 n := by unfold wrap32; omega
theorem w32_hi (n : Int) : wrap32 n ≤ 2147483647 := by unfold wrap32; omega
theorem w3264 (n : Int) : wrap32 (wrap64 n) = wrap32 n := by unfold wrap64 wrap32; omega
theorem w32_id (n : Int) (a : -2147483648 ≤ n) (b : n ≤ 2147483647) : wrap32 n = n := by unfold wrap32; omega

/-- 1 for true, 0 for false. -/
def b2i (b : Bool) : Int := if b then 1 else 0

theorem ret_i {a b : Int} (h : a = b) : Ending.returned (.int .i64 a) = .returned (.int .i64 b) := by rw [h]

theorem spec_bool (b : Bool) (w : World) :
    Calls Tryd.prog 135 #[.bool b] w fun e w' => e = .returned (.int .i64 (b2i b)) ∧ w = w' := by
  cases b <;> go_enter Tryd.func135, Tryd.ntmps135 <;> go_wp2 <;> go_ret <;> exact ⟨rfl, rfl⟩

theorem impl_bool (b : Bool) (w : World) :
    Calls Tryd.prog 65 #[.bool b] w fun e w' => e = .returned (.int .i64 (b2i b)) ∧ w = w' := by
  cases b <;> go_enter Tryd.func65, Tryd.ntmps65 <;> go_wp2 <;> go_ret <;> exact ⟨rfl, rfl⟩

theorem spec_operate (op a b : Int) (w : World) :
    Calls Tryd.prog 126 #[.int .i64 op, .int .i64 a, .int .i64 b] w fun e w' => e = .returned (.int .i64 (opV op a b)) ∧ w = w' := by
  have a1 := w32_lo a
  have a2 := w32_hi a
  have b1 := w32_lo b
  have b2 := w32_hi b
  by_cases h1 : op = 1
  · subst h1
    have F := Lib.hid (show wrap32 (wrap32 a + wrap32 b) = opV 1 a b from by simp [opV])
    go_enter Tryd.func126, Tryd.ntmps126
    go_wp2_with (go_at_call 134; refine (spec_wrap32 _ _).mono ?_; rintro e w' ⟨rfl, rfl⟩)
    go_ret
    exact ⟨ret_i F.out, rfl⟩
  by_cases h2 : op = 2
  · subst h2
    have F := Lib.hid (show wrap32 (wrap32 a - wrap32 b) = opV 2 a b from by simp [opV])
    go_enter Tryd.func126, Tryd.ntmps126
    go_wp2_with (go_at_call 134; refine (spec_wrap32 _ _).mono ?_; rintro e w' ⟨rfl, rfl⟩)
    go_ret
    exact ⟨ret_i F.out, rfl⟩
  by_cases h3 : op = 3
  · subst h3
    have F := Lib.hid (show wrap32 (wrap64 (wrap32 a * wrap32 b)) = opV 3 a b from by simp [opV, w3264])
    go_enter Tryd.func126, Tryd.ntmps126
    go_wp2_with (go_at_call 134; refine (spec_wrap32 _ _).mono ?_; rintro e w' ⟨rfl, rfl⟩)
    go_ret
    exact ⟨ret_i F.out, rfl⟩
  by_cases h4 : op = 4
  · subst h4
    by_cases hb : wrap32 b = 0
    · have F := Lib.hid (show 0 = opV 4 a b from by simp [opV, hb])
      go_enter Tryd.func126, Tryd.ntmps126
      go_wp2_with (go_at_call 134; refine (spec_wrap32 _ _).mono ?_; rintro e w' ⟨rfl, rfl⟩)
      go_ret
      exact ⟨ret_i F.out, rfl⟩
    · have F := Lib.hid (show wrap32 (wrap64 ((wrap32 a).tdiv (wrap32 b))) = opV 4 a b from by simp [opV, hb, w3264])
      have hb' : (wrap32 b == 0) = false := by simpa using hb
      go_enter Tryd.func126, Tryd.ntmps126
      go_wp2_with (go_at_call 134; refine (spec_wrap32 _ _).mono ?_; rintro e w' ⟨rfl, rfl⟩)
      go_ret
      exact ⟨ret_i F.out, rfl⟩
  by_cases h5 : op = 5
  · subst h5
    have F := Lib.hid (show b2i (decide (wrap32 a < wrap32 b)) = opV 5 a b from by simp [opV, b2i])
    go_enter Tryd.func126, Tryd.ntmps126
    go_wp2_with (first | (go_at_call 134; refine (spec_wrap32 _ _).mono ?_; rintro e w' ⟨rfl, rfl⟩) | (go_at_call 135; refine (spec_bool _ _).mono ?_; rintro e w' ⟨rfl, rfl⟩))
    go_ret
    exact ⟨ret_i F.out, rfl⟩
  by_cases h6 : op = 6
  · subst h6
    have F := Lib.hid (show b2i (wrap32 a == wrap32 b) = opV 6 a b from by simp [opV, b2i])
    go_enter Tryd.func126, Tryd.ntmps126
    go_wp2_with (first | (go_at_call 134; refine (spec_wrap32 _ _).mono ?_; rintro e w' ⟨rfl, rfl⟩) | (go_at_call 135; refine (spec_bool _ _).mono ?_; rintro e w' ⟨rfl, rfl⟩))
    go_ret
    exact ⟨ret_i F.out, rfl⟩
  have F := Lib.hid (show 0 = opV op a b from by simp [opV, h1, h2, h3, h4, h5, h6])
  have k1 : (op == 1) = false := by simpa using h1
  have k2 : (op == 2) = false := by simpa using h2
  have k3 : (op == 3) = false := by simpa using h3
  have k4 : (op == 4) = false := by simpa using h4
  have k5 : (op == 5) = false := by simpa using h5
  have k6 : (op == 6) = false := by simpa using h6
  go_enter Tryd.func126, Tryd.ntmps126
  go_wp2_with (go_at_call 134; refine (spec_wrap32 _ _).mono ?_; rintro e w' ⟨rfl, rfl⟩)
  go_ret
  exact ⟨ret_i F.out, rfl⟩

end Go.Proofs.YtfbgkbgoooepmaaDoor.Con

namespace Go.Proofs.YtfbgkbgoooepmaaDoor.Con
open Go.RowKit

theorem same_of {P : Program} {f : FuncId} {args : Array Value} {w : World} {v : Value} (h : Calls P f args w fun e w' => e = .returned v ∧ w = w') :
    Calls P f args w fun e w' => e = .returned v ∧ w' = w := h.mono fun _ _ ⟨a, b⟩ => ⟨a, b.symm⟩

/-- Is there such an operator? -/
def isopV (op : Int) : Bool := decide (1 ≤ op ∧ op ≤ 6)
def quoV (x y : Int) : Int := if y = 0 then 0 else wrap64 (x.tdiv y)

end Go.Proofs.YtfbgkbgoooepmaaDoor.Con
