/-
  Contracts of the two functions ReadDecimal: what they answer is said by 'RV'; what was in memory stays as it was. Condition (of the program's alone): strconv's two errors read as interface values.
-/
import Derived.Test.YtkajadnkgjphgabDoorVal
import Derived.Test.YtkajadnkgjphgabDoorLet
import Derived.Test.YtkajadnkgjphgabDoorTab
import Derived.Test.YtkajadnkgjphgabDoorDecI
import Derived.Test.YtkajadnkgjphgabDoorDecS
namespace Go.Proofs.YtkajadnkgjphgabDoor.Con
open Go.RowKit Go.PlainAid

def valS (l : List UInt8) : Nat := match l with | [] => 0 | c :: r => if c = 45 then valA 0 r else valA 0 (c :: r)
theorem valS_cons (c : UInt8) (r : List UInt8) : valS (c :: r) = if c = 45 then valA 0 r else valA 0 (c :: r) := rfl
theorem valS_one (c : UInt8) : valS [c] = if c = 45 then 0 else c.toNat - 48 := by
  rw [valS_cons, valA_cons, valA_nil, valA_nil, Nat.zero_mul, Nat.zero_add]
theorem valS_snoc (l : List UInt8) (c : UInt8) (h : l ≠ []) : valS (l ++ [c]) = valS l * 10 + (c.toNat - 48) := by
  cases l with
  | nil => exact absurd rfl h
  | cons d r =>
    rw [List.cons_append, valS_cons, valS_cons]
    by_cases hd : d = 45
    · rw [if_pos hd, if_pos hd, valA_snoc]
    · rw [if_neg hd, if_neg hd, ← List.cons_append, valA_snoc]
/-- The number that the loop has found, with its sign. -/
def sgnV (l : List UInt8) : Int := match l with | [] => 0 | c :: r => if c = 45 then -((valS (c :: r) : Nat) : Int) else (valS (c :: r) : Nat)
theorem sgnV_cons (c : UInt8) (r : List UInt8) : sgnV (c :: r) = if c = 45 then -((valS (c :: r) : Nat) : Int) else (valS (c :: r) : Nat) := rfl
theorem sgn_dec {m : Int} (l : List UInt8) (h : decV m = l) : sgnV l = m := by
  subst h
  unfold decV
  by_cases hn : m < 0
  · rw [if_pos hn, sgnV_cons, if_pos rfl, valS_cons, if_pos rfl, decN_val]
    omega
  · rw [if_neg hn]
    have hv := decN_val m.natAbs
    have hd := decN_dig m.natAbs
    cases e : decN m.natAbs with
    | nil => exact absurd e (decN_ne _)
    | cons c r =>
      rw [e] at hv hd
      have hc : 48 ≤ c.toNat ∧ c.toNat ≤ 57 := hd c (by simp)
      have h45 : ¬ c = 45 := by rintro rfl; exact absurd hc.1 (by decide)
      rw [sgnV_cons, if_neg h45, valS_cons, if_neg h45, hv]
      omega
theorem RV_yes {l : List UInt8} (h : in32 (sgnV l)) (e : decV (sgnV l) = l) : RV l (sgnV l) true := Or.inl ⟨rfl, h, e⟩
theorem RV_no {l : List UInt8} (h : ¬ in32 (sgnV l) ∨ decV (sgnV l) ≠ l) : RV l 0 false := Or.inr ⟨rfl, rfl, fun m hm hd => by
  have e := sgn_dec l hd
  rw [e] at h
  rcases h with h | h
  · exact h hm
  · exact h hd⟩
theorem RV_len {l : List UInt8} (h : l.length < 1 ∨ 11 < l.length) : RV l 0 false := Or.inr ⟨rfl, rfl, fun m hm hd => by
  have := decV_len hm
  rw [hd] at this
  omega⟩
theorem RV_byte {l : List UInt8} (k : Nat) (hk : k < l.length) (h0 : ¬ (k = 0 ∧ l[k] = 45)) (h : ¬ isD l[k]) : RV l 0 false := Or.inr ⟨rfl, rfl, fun m _ hd => by
  subst hd
  by_cases hn : m < 0
  · have e : decV m = 45 :: decN m.natAbs := by unfold decV; rw [if_pos hn]
    cases k with
    | zero => exact h0 ⟨rfl, by simp [e]⟩
    | succ k =>
      have hk2 : k < (decN m.natAbs).length := by rw [e] at hk; simpa using hk
      have hx : (decV m)[k + 1] = (decN m.natAbs)[k] := by simp [e]
      rw [hx] at h
      exact h (decN_dig _ _ (List.getElem_mem _))
  · have e : decV m = decN m.natAbs := by unfold decV; rw [if_neg hn]
    have hx : (decV m)[k] ∈ decN m.natAbs := by rw [← e]; exact List.getElem_mem _
    exact h (decN_dig _ _ hx)⟩

/-- A number and a truth value are returned, as RV says. -/
def Reads (l : List UInt8) (e : Ending) : Prop := ∃ n ok, RV l n ok ∧ e = .returned (.tuple #[.int .i64 n, .bool ok])
theorem Reads.mk {l : List UInt8} {n : Int} {ok : Bool} (h : RV l n ok) : Reads l (.returned (.tuple #[.int .i64 n, .bool ok])) := ⟨n, ok, h, rfl⟩

theorem bt_data (s : ByteArray) (k : Nat) (h : k < s.data.toList.length) : bt s k = ((s.data.toList[k]'h).toNat : Int) := by
  have hs : k < s.size := by rw [Array.length_toList] at h; exact h
  unfold bt
  rw [dif_pos hs]
  simp only [Array.getElem_toList]
  rfl
theorem pow_le11 {k : Nat} (h : k ≤ 11) : 10 ^ k ≤ 100000000000 := Nat.le_trans (Nat.pow_le_pow_right (by omega) h) (by decide)

end Go.Proofs.YtkajadnkgjphgabDoor.Con
