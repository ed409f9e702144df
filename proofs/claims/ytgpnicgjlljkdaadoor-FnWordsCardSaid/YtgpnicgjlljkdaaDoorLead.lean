/-
  Plain facts: a decimal form with a zero before it is none. No program in it, no condition.
-/
import Derived.Test.YtgpnicgjlljkdaaDoorVal
namespace Go.Proofs.YtgpnicgjlljkdaaDoor.Con

theorem decN_head (a : Nat) (h : 0 < a) : ∃ c r, decN a = c :: r ∧ c ≠ 48 := by
  induction a using Nat.strongRecOn with
  | _ a ih =>
    by_cases h10 : a < 10
    · refine ⟨_, [], decN_small h10, fun e => ?_⟩
      have := dig_toNat a h10
      rw [e] at this
      have h48 : (48 : UInt8).toNat = 48 := rfl
      omega
    · obtain ⟨c, r, e, hc⟩ := ih (a / 10) (by omega) (by omega)
      rw [decN_big (by omega), e]
      exact ⟨c, _, rfl, hc⟩
theorem decV_lead (m : Int) (r : List UInt8) (h : decV m = 48 :: r) : r = [] := by
  unfold decV at h
  split at h
  · injection h with h _
    exact absurd h (by decide)
  · by_cases h0 : m.natAbs = 0
    · rw [h0] at h
      have e : decN 0 = [48] := rfl
      rw [e] at h
      injection h with _ h
      exact h.symm
    · obtain ⟨c, q, e, hc⟩ := decN_head m.natAbs (by omega)
      rw [e] at h
      injection h with h _
      exact absurd h hc
theorem decV_ne (m : Int) : decV m ≠ [] := by
  unfold decV
  split
  · simp
  · exact decN_ne _
theorem RV_self {n : Int} (h : in32 n) : RV (decV n) n true := Or.inl ⟨rfl, h, rfl⟩
theorem RV_lead (n : Int) : RV (48 :: decV n) 0 false := Or.inr ⟨rfl, rfl, fun m _ he => decV_ne n (decV_lead m _ he)⟩

end Go.Proofs.YtgpnicgjlljkdaaDoor.Con
