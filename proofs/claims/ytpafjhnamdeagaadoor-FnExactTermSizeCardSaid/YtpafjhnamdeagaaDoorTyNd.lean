/-
  When a type is valid and how many nodes it has, as a function on types without addresses. No program in it, no condition.
-/
import Derived.Test.YtpafjhnamdeagaaDoorTyNew
import Derived.Test.YtpafjhnamdeagaaDoorCase
namespace Go.Proofs.YtpafjhnamdeagaaDoor.Con
open Go.RowKit

/-- Is the text the name of a data type? -/
def dataB (n : ByteArray) : Bool := upperB n && !(n.toList == [73, 110, 116])

/-- Has a node the form that its number requires? m: how many kids it has. -/
def headB (k : Int) (n : ByteArray) (m : Nat) : Bool :=
  (k == 1 && n.toList.isEmpty && m == 0) || (k == 2 && dataB n && m == 0) || (k == 3 && n.toList.isEmpty && m == 2) || (k == 4 && n.toList.isEmpty && m == 1)

/-- The number of nodes of a type of a valid form and of depth d at most. -/
def Ty.nd : Ty → Nat → Option Nat
  | .mk _ _ _, 0 => none
  | .mk k n ks, d + 1 => if headB k n ks.length then (ndl ks d).map (· + 1) else none
where ndl : List Ty → Nat → Option Nat
  | [], _ => some 0
  | t :: ts, d => match t.nd d, ndl ts d with | some a, some b => some (a + b) | _, _ => none

abbrev ndl (ks : List Ty) (d : Nat) : Option Nat := Ty.nd.ndl ks d

theorem nd_succ (k : Int) (n : ByteArray) (ks : List Ty) (d : Nat) : (Ty.mk k n ks).nd (d + 1) = if headB k n ks.length then (ndl ks d).map (· + 1) else none := by rw [Ty.nd]
theorem nd_zero (t : Ty) : t.nd 0 = none := by
  obtain ⟨k, n, ks⟩ := t
  rw [Ty.nd]
theorem ndl_cons (t : Ty) (ts : List Ty) (d : Nat) : ndl (t :: ts) d = match t.nd d, ndl ts d with | some a, some b => some (a + b) | _, _ => none := by simp only [ndl, Ty.nd.ndl]

theorem ndl_append (xs ys : List Ty) (d : Nat) : ndl (xs ++ ys) d = match ndl xs d, ndl ys d with | some a, some b => some (a + b) | _, _ => none := by
  induction xs with
  | nil => simp only [List.nil_append, ndl, Ty.nd.ndl]; cases Ty.nd.ndl ys d <;> simp
  | cons t ts ih =>
    rw [List.cons_append, ndl_cons, ndl_cons, ih]
    cases t.nd d <;> cases ndl ts d <;> cases ndl ys d <;> simp [Nat.add_assoc]

theorem ndl_take (ks : List Ty) (d i : Nat) (hi : i < ks.length) : ndl (ks.take (i + 1)) d = match ndl (ks.take i) d, ks[i].nd d with | some a, some b => some (a + b) | _, _ => none := by
  rw [List.take_succ_eq_append_getElem hi, ndl_append, ndl_cons]
  have : ndl [] d = some 0 := by simp [ndl, Ty.nd.ndl]
  rw [this]
  cases ks[i].nd d <;> cases ndl (ks.take i) d <;> simp

theorem ndl_none {ks : List Ty} {d : Nat} {t : Ty} (h : t ∈ ks) (hn : t.nd d = none) : ndl ks d = none := by
  induction ks with
  | nil => cases h
  | cons u us ih =>
    rw [ndl_cons]
    rcases List.mem_cons.1 h with rfl | h
    · simp [hn]
    · rw [ih h]; cases u.nd d <;> simp

theorem headB_len {k : Int} {n : ByteArray} {m : Nat} (h : headB k n m = true) : m ≤ 2 := by
  unfold headB at h
  simp only [Bool.or_eq_true, Bool.and_eq_true, beq_iff_eq] at h
  omega

mutual
theorem nd_le : ∀ (t : Ty) (d m : Nat), t.nd d = some m → 1 ≤ m ∧ m < 2 ^ d
  | .mk k n ks, 0, m, h => by rw [nd_zero] at h; cases h
  | .mk k n ks, d + 1, m, h => by
    rw [nd_succ] at h
    split at h
    · rename_i hh
      have hl := headB_len hh
      obtain ⟨s, hs, rfl⟩ := Option.map_eq_some_iff.1 h
      have := ndl_le ks d s hs
      have e : 2 ^ (d + 1) = 2 * 2 ^ d := by rw [Nat.pow_succ]; omega
      have p : 0 < 2 ^ d := Nat.two_pow_pos d
      have : s ≤ ks.length * (2 ^ d - 1) := by omega
      have : ks.length * (2 ^ d - 1) ≤ 2 * (2 ^ d - 1) := Nat.mul_le_mul_right _ hl
      omega
    · cases h
theorem ndl_le : ∀ (ks : List Ty) (d s : Nat), ndl ks d = some s → s ≤ ks.length * (2 ^ d - 1)
  | [], d, s, h => by simp [ndl, Ty.nd.ndl] at h; omega
  | t :: ts, d, s, h => by
    rw [ndl_cons] at h
    cases h1 : t.nd d with
    | none => rw [h1] at h; simp at h
    | some a =>
      cases h2 : ndl ts d with
      | none => rw [h1, h2] at h; simp at h
      | some b =>
        rw [h1, h2] at h
        simp at h
        have := nd_le t d a h1
        have := ndl_le ts d b h2
        have e : (ts.length + 1) * (2 ^ d - 1) = ts.length * (2 ^ d - 1) + (2 ^ d - 1) := by rw [Nat.add_mul, Nat.one_mul]
        rw [List.length_cons, e]
        omega
end

/-- As Go counts: -1 for none. -/
def ndI (t : Ty) (d : Nat) : Int := match t.nd d with | some m => m | none => -1

theorem ndI_some {t : Ty} {d m : Nat} (h : t.nd d = some m) : ndI t d = m := by unfold ndI; rw [h]
theorem ndI_none {t : Ty} {d : Nat} (h : t.nd d = none) : ndI t d = -1 := by unfold ndI; rw [h]

theorem nd_small {t : Ty} {d m : Nat} (hd : d ≤ 6) (h : t.nd d = some m) : 1 ≤ m ∧ m ≤ 63 := by
  have := nd_le t d m h
  have : 2 ^ d ≤ 2 ^ 6 := Nat.pow_le_pow_right (by omega) hd
  omega

theorem ndl_small {ks : List Ty} {d s : Nat} (hd : d ≤ 6) (hl : ks.length ≤ 2) (h : ndl ks d = some s) : s ≤ 126 := by
  have h1 := ndl_le ks d s h
  have h2 : 2 ^ d ≤ 2 ^ 6 := Nat.pow_le_pow_right (by omega) hd
  have h3 : ks.length * (2 ^ d - 1) ≤ 2 * 63 := Nat.mul_le_mul hl (by omega)
  omega

/-- Is the type valid? -/
def validB (t : Ty) : Bool := match t.nd 6 with | some m => decide (m ≤ 16) | none => false
/-- Its size, 0 for an invalid one. -/
def sizeN (t : Ty) : Nat := match t.nd 6 with | some m => if m ≤ 16 then m else 0 | none => 0

end Go.Proofs.YtpafjhnamdeagaaDoor.Con
