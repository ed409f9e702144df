/-
  Plain facts on decimal forms: 'decV n' is the list of bytes of the decimal form of an integer. No program in it, no condition.
-/
import Derived.Test.YtbbldkhlclfmkaaBase
import Derived.Lib.UnsafeStr
namespace Go.Proofs.Ytbbldkhlclfmkaa.Con

/-- The digits of a number, the last one first; none for 0. -/
def revN (a : Nat) : List UInt8 := if h : a = 0 then [] else UInt8.ofNat (48 + a % 10) :: revN (a / 10)
termination_by a
decreasing_by omega

theorem revN_zero : revN 0 = [] := by rw [revN]; rfl
theorem revN_pos {a : Nat} (h : a ≠ 0) : revN a = UInt8.ofNat (48 + a % 10) :: revN (a / 10) := by rw [revN, dif_neg h]
theorem revN_len : ∀ (k a : Nat), a < 10 ^ k → (revN a).length ≤ k
  | 0, a, h => by
    have : a = 0 := by simpa using h
    subst this
    rw [revN_zero]; exact Nat.le_refl _
  | k + 1, a, h => by
    by_cases ha : a = 0
    · subst ha; rw [revN_zero]; exact Nat.zero_le _
    · rw [revN_pos ha]
      have := revN_len k (a / 10) (by rw [Nat.pow_succ] at h; omega)
      simp; exact this
theorem revN_len20 {a : Nat} (h : a ≤ 18446744073709551615) : (revN a).length ≤ 20 :=
  revN_len 20 a (Nat.lt_of_le_of_lt h (by decide))

/-- The decimal form of a natural number. -/
def decN (a : Nat) : List UInt8 := if a = 0 then [48] else (revN a).reverse
theorem decN_small {a : Nat} (h : a < 10) : decN a = [UInt8.ofNat (48 + a)] := by
  unfold decN
  by_cases h0 : a = 0
  · subst h0; rfl
  · rw [if_neg h0, revN_pos h0, show a / 10 = 0 by omega, revN_zero, show a % 10 = a by omega]; rfl
theorem decN_big {a : Nat} (h : 10 ≤ a) : decN a = decN (a / 10) ++ [UInt8.ofNat (48 + a % 10)] := by
  unfold decN
  rw [if_neg (by omega), if_neg (by omega), revN_pos (by omega : a ≠ 0), List.reverse_cons]
theorem decN_len {a : Nat} (h : a ≤ 18446744073709551615) : (decN a).length ≤ 20 := by
  unfold decN
  split
  · simp
  · rw [List.length_reverse]; exact revN_len20 h

/-- The decimal form of an integer. -/
def decV (n : Int) : List UInt8 := if n < 0 then 45 :: decN n.natAbs else decN n.natAbs

theorem dig_toNat (a : Nat) (h : a < 10) : (UInt8.ofNat (48 + a)).toNat = 48 + a := by
  rw [UInt8.toNat_ofNat', Nat.mod_eq_of_lt (by omega)]
theorem cell_dig (a : Nat) (h : a < 10) : Lib.byteCells [UInt8.ofNat (48 + a)] = [.int .u8 (48 + (a : Int))] := by
  unfold Lib.byteCells
  rw [List.map_cons, List.map_nil, dig_toNat a h]
  simp

/-- The text before it is turned round. -/
def tailV (n : Int) : List UInt8 := if n = 0 then [48] else if n < 0 then revN n.natAbs ++ [45] else revN n.natAbs
theorem tailV_rev (n : Int) : (tailV n).reverse = decV n := by
  unfold tailV decV decN
  by_cases h : n = 0
  · subst h; rfl
  · have : n.natAbs ≠ 0 := by omega
    by_cases h2 : n < 0
    · simp [h, h2]
    · simp [h, h2]
theorem tailV_len (n : Int) (h : n.natAbs ≤ 18446744073709551615) : (tailV n).length ≤ 21 := by
  have := revN_len20 h
  unfold tailV
  split
  · simp
  · split
    · simp; omega
    · omega

end Go.Proofs.Ytbbldkhlclfmkaa.Con
