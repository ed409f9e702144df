/-
  Contract of the program's function Operate: it answers 'opV op a b', for all integers; what was in memory before stays as it was. No condition.
-/
import Derived.Test.YtkajadnkgjphgaaDoorOper
import Derived.Laws.EntriesVeiled
namespace Go.Proofs.YtkajadnkgjphgaaDoor.Con
open Go.RowKit

theorem same_of {P : Program} {f : FuncId} {args : Array Value} {w : World} {v : Value} (h : Calls P f args w fun e w' => e = .returned v ∧ w = w') :
    Calls P f args w fun e w' => e = .returned v ∧ w' = w := h.mono fun _ _ ⟨a, b⟩ => ⟨a, b.symm⟩

/-- Is there such an operator? -/
def isopV (op : Int) : Bool := decide (1 ≤ op ∧ op ≤ 6)
def quoV (x y : Int) : Int := if y = 0 then 0 else wrap64 (x.tdiv y)

theorem ret_b {a b : Bool} (h : a = b) : Ending.returned (.bool a) = .returned (.bool b) := by rw [h]

theorem impl_isop (op : Int) (w : World) :
    Calls Tryd.prog 24 #[.int .i64 op] w fun e w' => e = .returned (.bool (isopV op)) ∧ w = w' := by
  by_cases h : 1 ≤ op
  · by_cases h' : op ≤ 6
    · have F := Lib.hid (show true = isopV op from (decide_eq_true ⟨h, h'⟩).symm)
      go_enter Tryd.func24, Tryd.ntmps24
      go_wp2
      go_ret
      exact ⟨ret_b F.out, rfl⟩
    · have F := Lib.hid (show false = isopV op from (decide_eq_false (fun z => h' z.2)).symm)
      go_enter Tryd.func24, Tryd.ntmps24
      go_wp2
      go_ret
      exact ⟨ret_b F.out, rfl⟩
  · have F := Lib.hid (show false = isopV op from (decide_eq_false (fun z => h z.1)).symm)
    go_enter Tryd.func24, Tryd.ntmps24
    go_wp2
    go_ret
    exact ⟨ret_b F.out, rfl⟩

theorem op1 (x y : Int) (x1 : -2147483648 ≤ x) (x2 : x ≤ 2147483647) (y1 : -2147483648 ≤ y) (y2 : y ≤ 2147483647) (w : World) :
    Calls Tryd.prog 32 #[.int .i64 x, .int .i64 y] w fun e w' => e = .returned (.int .i64 (x + y)) ∧ w = w' := by
  go_enter Tryd.func32, Tryd.ntmps32
  go_wp2
  go_ret
  exact ⟨rfl, rfl⟩

theorem op2 (x y : Int) (x1 : -2147483648 ≤ x) (x2 : x ≤ 2147483647) (y1 : -2147483648 ≤ y) (y2 : y ≤ 2147483647) (w : World) :
    Calls Tryd.prog 33 #[.int .i64 x, .int .i64 y] w fun e w' => e = .returned (.int .i64 (x - y)) ∧ w = w' := by
  go_enter Tryd.func33, Tryd.ntmps33
  go_wp2
  go_ret
  exact ⟨rfl, rfl⟩

theorem op3 (x y : Int) (w : World) :
    Calls Tryd.prog 34 #[.int .i64 x, .int .i64 y] w fun e w' => e = .returned (.int .i64 (wrap64 (x * y))) ∧ w = w' := by
  go_enter Tryd.func34, Tryd.ntmps34
  go_wp2
  go_ret
  exact ⟨rfl, rfl⟩

theorem op4 (x y : Int) (w : World) :
    Calls Tryd.prog 35 #[.int .i64 x, .int .i64 y] w fun e w' => e = .returned (.int .i64 (quoV x y)) ∧ w = w' := by
  by_cases h : y = 0
  · subst h
    have F := Lib.hid (show 0 = quoV x 0 from by simp [quoV])
    go_enter Tryd.func35, Tryd.ntmps35
    go_wp2
    go_ret
    exact ⟨ret_i F.out, rfl⟩
  · have h' : (y == 0) = false := by simpa using h
    have F := Lib.hid (show wrap64 (x.tdiv y) = quoV x y from by simp [quoV, h])
    go_enter Tryd.func35, Tryd.ntmps35
    go_wp2
    go_ret
    exact ⟨ret_i F.out, rfl⟩

theorem op5 (x y : Int) (w : World) :
    Calls Tryd.prog 36 #[.int .i64 x, .int .i64 y] w fun e w' => e = .returned (.int .i64 (b2i (decide (x < y)))) ∧ w = w' := by
  go_enter Tryd.func36, Tryd.ntmps36
  go_wp2_with (go_at_call 37; refine (impl_bool _ _).mono ?_; rintro e w' ⟨rfl, rfl⟩)
  go_ret
  exact ⟨rfl, rfl⟩

theorem op6 (x y : Int) (w : World) :
    Calls Tryd.prog 38 #[.int .i64 x, .int .i64 y] w fun e w' => e = .returned (.int .i64 (b2i (x == y))) ∧ w = w' := by
  go_enter Tryd.func38, Tryd.ntmps38
  go_wp2_with (go_at_call 37; refine (impl_bool _ _).mono ?_; rintro e w' ⟨rfl, rfl⟩)
  go_ret
  exact ⟨rfl, rfl⟩

theorem impl_operate_no (op a b : Int) (w : World) (h : ¬ (1 ≤ op ∧ op ≤ 6)) :
    Calls Tryd.prog 19 #[.int .i64 op, .int .i64 a, .int .i64 b] w fun e w' => e = .returned (.int .i64 (opV op a b)) ∧ Gw w w' := by
  have F := Lib.hid (show 0 = opV op a b from by unfold opV; simp only [show ¬ op = 1 by omega, show ¬ op = 2 by omega, show ¬ op = 3 by omega, show ¬ op = 4 by omega, show ¬ op = 5 by omega, show ¬ op = 6 by omega, if_false])
  have d : isopV op = false := decide_eq_false h
  go_enter Tryd.func19, Tryd.ntmps19
  go_wp2_with (go_at_call 24; refine (impl_isop _ _).mono ?_; rintro e w' ⟨rfl, rfl⟩)
  go_ret
  exact ⟨ret_i F.out, Gw.refl _⟩

set_option maxHeartbeats 400000 in
theorem impl_operate_1 (a b : Int) (w : World) :
    Calls Tryd.prog 19 #[.int .i64 1, .int .i64 a, .int .i64 b] w fun e w' => e = .returned (.int .i64 (opV 1 a b)) ∧ Gw w w' := by
  have a1 := w32_lo a
  have a2 := w32_hi a
  have b1 := w32_lo b
  have b2 := w32_hi b
  have d : isopV 1 = true := rfl
  have F := Lib.hid (show wrap32 (wrap32 a + wrap32 b) = opV 1 a b from by simp [opV])
  go_enter Tryd.func19, Tryd.ntmps19
  go_wp2_with (go_at_call 24; refine (impl_isop _ _).mono ?_; rintro e w' ⟨rfl, rfl⟩)
  go_quiet (first | (go_at_call 20; exact Calls.quiet_of_same (same_of (impl_wrap32 _ _))) | (go_at_call 32; exact Calls.quiet_of_same (same_of (op1 _ _ a1 a2 b1 b2 _))))
  go_wp2
  go_ret
  exact ⟨ret_i F.out, ((Gw.refl _).alloc _).drewN _⟩

set_option maxHeartbeats 400000 in
theorem impl_operate_2 (a b : Int) (w : World) :
    Calls Tryd.prog 19 #[.int .i64 2, .int .i64 a, .int .i64 b] w fun e w' => e = .returned (.int .i64 (opV 2 a b)) ∧ Gw w w' := by
  have a1 := w32_lo a
  have a2 := w32_hi a
  have b1 := w32_lo b
  have b2 := w32_hi b
  have d : isopV 2 = true := rfl
  have F := Lib.hid (show wrap32 (wrap32 a - wrap32 b) = opV 2 a b from by simp [opV])
  go_enter Tryd.func19, Tryd.ntmps19
  go_wp2_with (go_at_call 24; refine (impl_isop _ _).mono ?_; rintro e w' ⟨rfl, rfl⟩)
  go_quiet (first | (go_at_call 20; exact Calls.quiet_of_same (same_of (impl_wrap32 _ _))) | (go_at_call 33; exact Calls.quiet_of_same (same_of (op2 _ _ a1 a2 b1 b2 _))))
  go_wp2
  go_ret
  exact ⟨ret_i F.out, ((Gw.refl _).alloc _).drewN _⟩

set_option maxHeartbeats 400000 in
theorem impl_operate_3 (a b : Int) (w : World) :
    Calls Tryd.prog 19 #[.int .i64 3, .int .i64 a, .int .i64 b] w fun e w' => e = .returned (.int .i64 (opV 3 a b)) ∧ Gw w w' := by
  have a1 := w32_lo a
  have a2 := w32_hi a
  have b1 := w32_lo b
  have b2 := w32_hi b
  have d : isopV 3 = true := rfl
  have F := Lib.hid (show wrap32 (wrap64 (wrap32 a * wrap32 b)) = opV 3 a b from by simp [opV, w3264])
  go_enter Tryd.func19, Tryd.ntmps19
  go_wp2_with (go_at_call 24; refine (impl_isop _ _).mono ?_; rintro e w' ⟨rfl, rfl⟩)
  go_quiet (first | (go_at_call 20; exact Calls.quiet_of_same (same_of (impl_wrap32 _ _))) | (go_at_call 34; exact Calls.quiet_of_same (same_of (op3 _ _ _))))
  go_wp2
  go_ret
  exact ⟨ret_i F.out, ((Gw.refl _).alloc _).drewN _⟩

set_option maxHeartbeats 400000 in
theorem impl_operate_4 (a b : Int) (w : World) :
    Calls Tryd.prog 19 #[.int .i64 4, .int .i64 a, .int .i64 b] w fun e w' => e = .returned (.int .i64 (opV 4 a b)) ∧ Gw w w' := by
  have a1 := w32_lo a
  have a2 := w32_hi a
  have b1 := w32_lo b
  have b2 := w32_hi b
  have d : isopV 4 = true := rfl
  have F := Lib.hid (show wrap32 (quoV (wrap32 a) (wrap32 b)) = opV 4 a b from by unfold opV quoV; split <;> simp_all [w3264]; exact w32_id _ (by decide) (by decide))
  go_enter Tryd.func19, Tryd.ntmps19
  go_wp2_with (go_at_call 24; refine (impl_isop _ _).mono ?_; rintro e w' ⟨rfl, rfl⟩)
  go_quiet (first | (go_at_call 20; exact Calls.quiet_of_same (same_of (impl_wrap32 _ _))) | (go_at_call 35; exact Calls.quiet_of_same (same_of (op4 _ _ _))))
  go_wp2
  go_ret
  exact ⟨ret_i F.out, ((Gw.refl _).alloc _).drewN _⟩

set_option maxHeartbeats 400000 in
theorem impl_operate_5 (a b : Int) (w : World) :
    Calls Tryd.prog 19 #[.int .i64 5, .int .i64 a, .int .i64 b] w fun e w' => e = .returned (.int .i64 (opV 5 a b)) ∧ Gw w w' := by
  have a1 := w32_lo a
  have a2 := w32_hi a
  have b1 := w32_lo b
  have b2 := w32_hi b
  have d : isopV 5 = true := rfl
  have F := Lib.hid (show wrap32 (b2i (decide (wrap32 a < wrap32 b))) = opV 5 a b from by simp only [opV, b2i]; simp; split <;> exact w32_id _ (by decide) (by decide))
  go_enter Tryd.func19, Tryd.ntmps19
  go_wp2_with (go_at_call 24; refine (impl_isop _ _).mono ?_; rintro e w' ⟨rfl, rfl⟩)
  go_quiet (first | (go_at_call 20; exact Calls.quiet_of_same (same_of (impl_wrap32 _ _))) | (go_at_call 36; exact Calls.quiet_of_same (same_of (op5 _ _ _))))
  go_wp2
  go_ret
  exact ⟨ret_i F.out, ((Gw.refl _).alloc _).drewN _⟩

set_option maxHeartbeats 400000 in
theorem impl_operate_6 (a b : Int) (w : World) :
    Calls Tryd.prog 19 #[.int .i64 6, .int .i64 a, .int .i64 b] w fun e w' => e = .returned (.int .i64 (opV 6 a b)) ∧ Gw w w' := by
  have a1 := w32_lo a
  have a2 := w32_hi a
  have b1 := w32_lo b
  have b2 := w32_hi b
  have d : isopV 6 = true := rfl
  have F := Lib.hid (show wrap32 (b2i (wrap32 a == wrap32 b)) = opV 6 a b from by simp only [opV, b2i]; simp; split <;> exact w32_id _ (by decide) (by decide))
  go_enter Tryd.func19, Tryd.ntmps19
  go_wp2_with (go_at_call 24; refine (impl_isop _ _).mono ?_; rintro e w' ⟨rfl, rfl⟩)
  go_quiet (first | (go_at_call 20; exact Calls.quiet_of_same (same_of (impl_wrap32 _ _))) | (go_at_call 38; exact Calls.quiet_of_same (same_of (op6 _ _ _))))
  go_wp2
  go_ret
  exact ⟨ret_i F.out, ((Gw.refl _).alloc _).drewN _⟩

theorem impl_operate (op a b : Int) (w : World) :
    Calls Tryd.prog 19 #[.int .i64 op, .int .i64 a, .int .i64 b] w fun e w' => e = .returned (.int .i64 (opV op a b)) ∧ Gw w w' := by
  by_cases h : 1 ≤ op ∧ op ≤ 6
  · obtain rfl | rfl | rfl | rfl | rfl | rfl : op = 1 ∨ op = 2 ∨ op = 3 ∨ op = 4 ∨ op = 5 ∨ op = 6 := by omega
    · exact impl_operate_1 a b w
    · exact impl_operate_2 a b w
    · exact impl_operate_3 a b w
    · exact impl_operate_4 a b w
    · exact impl_operate_5 a b w
    · exact impl_operate_6 a b w
  · exact impl_operate_no op a b w h

end Go.Proofs.YtkajadnkgjphgaaDoor.Con
