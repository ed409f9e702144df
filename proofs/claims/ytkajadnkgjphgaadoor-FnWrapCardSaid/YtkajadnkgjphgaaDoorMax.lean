/-
  Plain facts on the operations of the integers of the language, for the law FnWrap. No program in it, no condition.
-/
import Derived.Test.YtkajadnkgjphgaaDoorOper
namespace Go.Proofs.YtkajadnkgjphgaaDoor.Con
open Go.RowKit

def r32 (n : Int) : Prop := -2147483648 ≤ n ∧ n ≤ 2147483647
theorem r32_wrap (n : Int) : r32 (wrap32 n) := ⟨w32_lo n, w32_hi n⟩
theorem id32 {n : Int} (h : r32 n) : wrap32 n = n := w32_id n h.1 h.2
theorem opV_r32 (op a b : Int) : r32 (opV op a b) := by
  unfold opV r32
  have := w32_lo (wrap32 a + wrap32 b)
  have := w32_hi (wrap32 a + wrap32 b)
  have := w32_lo (wrap32 a - wrap32 b)
  have := w32_hi (wrap32 a - wrap32 b)
  have := w32_lo (wrap32 a * wrap32 b)
  have := w32_hi (wrap32 a * wrap32 b)
  have := w32_lo ((wrap32 a).tdiv (wrap32 b))
  have := w32_hi ((wrap32 a).tdiv (wrap32 b))
  repeat' split
  all_goals omega

theorem sub_add {x y : Int} (hx : r32 x) (hy : r32 y) : opV 2 (opV 1 x y) y = x := by
  simp only [opV]
  rw [id32 hx, id32 hy]
  obtain ⟨_, _⟩ := hx
  obtain ⟨_, _⟩ := hy
  simp
  unfold wrap32
  omega
theorem mul_comm' (x y : Int) : opV 3 x y = opV 3 y x := by
  simp [opV, Int.mul_comm]
theorem add_comm' (x y : Int) : opV 1 x y = opV 1 y x := by
  simp [opV, Int.add_comm]
theorem wrap_mult {x c : Int} (hx : r32 x) : wrap32 (wrap64 (x + wrap64 (c - c.tmod 4294967296))) = x := by
  obtain ⟨_, _⟩ := hx
  have h : ∃ q : Int, c - c.tmod 4294967296 = 4294967296 * q := ⟨c.tdiv 4294967296, by have := Int.mul_tdiv_add_tmod c 4294967296; omega⟩
  obtain ⟨q, hq⟩ := h
  rw [hq]
  unfold wrap32 wrap64
  omega
theorem quot_zero (x : Int) : opV 4 x 0 = 0 := by simp [opV, w32_id]
theorem rem_zero {x : Int} (hx : r32 x) : opV 2 x (opV 3 0 0) = x := by
  simp only [opV]
  rw [id32 hx]
  obtain ⟨_, _⟩ := hx
  simp [w32_id]
  unfold wrap32
  omega

theorem wrap32_mod (n : Int) : ∃ k : Int, wrap32 n = n + 4294967296 * k := ⟨-((n + 2147483648) / 4294967296), by unfold wrap32; omega⟩

theorem rem_is {x y : Int} (hx : r32 x) (hy : r32 y) (h0 : y ≠ 0) : opV 2 x (opV 3 (opV 4 x y) y) = x.tmod y := by
  have e4 : opV 4 x y = wrap32 (x.tdiv y) := by simp [opV, id32 hx, id32 hy, h0]
  have e3 : opV 3 (wrap32 (x.tdiv y)) y = wrap32 (wrap32 (x.tdiv y) * y) := by simp [opV, id32 hy, id32 (r32_wrap _)]
  have e2 : ∀ m, r32 m → opV 2 x m = wrap32 (x - m) := fun m hm => by simp [opV, id32 hx, id32 hm]
  rw [e4, e3, e2 _ (r32_wrap _)]
  obtain ⟨k, hk⟩ := wrap32_mod (x.tdiv y)
  obtain ⟨j, hj⟩ := wrap32_mod (wrap32 (x.tdiv y) * y)
  have hb : x - wrap32 (wrap32 (x.tdiv y) * y) = x.tmod y + 4294967296 * (-(k * y) - j) := by
    rw [hj, hk]
    have := Int.mul_tdiv_add_tmod x y
    have e : (x.tdiv y + 4294967296 * k) * y = y * x.tdiv y + 4294967296 * (k * y) := by
      rw [Int.add_mul, Int.mul_comm (x.tdiv y) y, Int.mul_assoc]
    rw [e]
    omega
  rw [hb]
  have h1 : (x.tmod y).natAbs < y.natAbs := by rw [Int.natAbs_tmod]; exact Nat.mod_lt _ (by omega)
  obtain ⟨_, _⟩ := hy
  generalize -(k * y) - j = q
  generalize x.tmod y = t at h1
  unfold wrap32
  omega

theorem rem_lt (x y : Int) (h0 : y ≠ 0) : (x.tmod y).natAbs < y.natAbs := by rw [Int.natAbs_tmod]; exact Nat.mod_lt _ (by omega)
theorem rem_sign (x y : Int) (h : x.tmod y ≠ 0) : decide (x.tmod y < 0) = decide (x < 0) := by
  by_cases hx : x < 0
  · have : x.tmod y ≤ 0 := by
      have e : x = -(-x) := by omega
      rw [e, Int.neg_tmod]
      have := Int.tmod_nonneg y (show 0 ≤ -x by omega)
      omega
    rw [decide_eq_true hx, decide_eq_true (by omega)]
  · have := Int.tmod_nonneg y (show 0 ≤ x by omega)
    rw [decide_eq_false hx, decide_eq_false (by omega)]

theorem less_is {x y : Int} (hx : r32 x) (hy : r32 y) : opV 5 x y = if x < y then 1 else 0 := by simp [opV, id32 hx, id32 hy]
theorem same_is {x y : Int} (hx : r32 x) (hy : r32 y) : opV 6 x y = if x = y then 1 else 0 := by simp [opV, id32 hx, id32 hy]
theorem one_of {x y : Int} (hx : r32 x) (hy : r32 y) : opV 5 x y + opV 5 y x + opV 6 x y = 1 := by
  rw [less_is hx hy, less_is hy hx, same_is hx hy]
  repeat' split
  all_goals omega
theorem less_one {x y : Int} (hx : r32 x) (hy : r32 y) : (opV 5 x y == 1) = decide (x < y) := by
  rw [less_is hx hy]
  by_cases h : x < y <;> simp [h]

end Go.Proofs.YtkajadnkgjphgaaDoor.Con
