/-
  Contracts of chapter 10's functions of small numbers: which kinds a set holds, HasLevel, IsConsumer, allowed levels, Duplicates (the model's and the program's). No condition.
-/
import Derived.Test.YtgobiejokgcmmaaDoorAg
import Derived.WalkSpells
namespace Go.Proofs.YtgobiejokgcmmaaDoor.Con
open Go.RowKit
set_option linter.unusedVariables false

theorem and_one16 (x : Int) (h0 : 0 ≤ x) (h1 : x < 65536) : bits .and .u16 x 1 = x % 2 := by
  obtain ⟨n, rfl⟩ : ∃ n : Nat, x = n := ⟨x.toNat, by omega⟩
  show IntKind.u16.wrap ((((BitVec.ofInt 16 (n : Int)) &&& (BitVec.ofInt 16 1)).toNat : Nat) : Int) = _
  have e : ((BitVec.ofInt 16 (n : Int)) &&& (BitVec.ofInt 16 1)).toNat = n % 2 := by
    rw [BitVec.toNat_and, show (BitVec.ofInt 16 1).toNat = 1 from rfl, Nat.and_one_is_mod, BitVec.toNat_ofInt]
    omega
  rw [e, IntKind.wrap_u16]
  omega

theorem bit_min (s k : Int) (h0 : 0 ≤ s) (h1 : s < 65536) (c : 0 ≤ k) : (bits .and .u16 (s / 2 ^ min k.toNat 16) 1 == 1) = bitV s k := by
  by_cases h : k ≤ 15
  · have hm : min k.toNat 16 = k.toNat := by omega
    have hd0 : 0 ≤ s / 2 ^ k.toNat := Int.ediv_nonneg h0 (Int.le_of_lt (Int.pow_pos (by decide)))
    have hd1 : s / 2 ^ k.toNat ≤ s := Int.ediv_le_self _ h0
    rw [hm, and_one16 _ hd0 (by omega)]
    unfold bitV
    simp [c]
  · have hm : min k.toNat 16 = 16 := by omega
    have hz : s / 2 ^ 16 = 0 := Int.ediv_eq_zero_of_lt h0 (by omega)
    rw [hm, hz, bit_16 s k h0 h1 (by omega)]
    decide

theorem impl_has (s k : Int) (h0 : 0 ≤ s) (h1 : s < 65536) (w : World) :
    Calls Tryd.prog 30 #[.int .u16 s, .int .i64 k] w fun e w' => e = .returned (.bool (bitV s k)) ∧ w = w' := by
  by_cases c : 0 ≤ k
  · have F := Lib.hid (bit_min s k h0 h1 c)
    go_enter Tryd.func30, Tryd.ntmps30
    go_wp2
    go_ret
    exact ⟨ret_b F.out, rfl⟩
  · have F := Lib.hid (show false = bitV s k from by unfold bitV; simp [c])
    go_enter Tryd.func30, Tryd.ntmps30
    go_wp2
    go_ret
    exact ⟨ret_b F.out, rfl⟩

theorem impl_lvl (k : Int) (w : World) : Calls Tryd.prog 39 #[.int .i64 k] w fun e w' => e = .returned (.bool (lvlV k)) ∧ w = w' := by
    have F := Lib.hid (bit_lvl k)
    go_enter Tryd.func39, Tryd.ntmps39
    go_wp2_with ((go_at_call 30; refine (impl_has 8092 _ (by decide) (by decide) _).mono ?_; rintro e w' ⟨rfl, rfl⟩))
    go_ret
    exact ⟨ret_b F.out, rfl⟩

theorem spec_lvl (k : Int) (w : World) : Calls Tryd.prog 50 #[.int .i64 k] w fun e w' => e = .returned (.bool (lvlV k)) ∧ w = w' := by
  by_cases e2 : k = 2
  · subst e2
    have F := Lib.hid (show true = lvlV 2 from rfl)
    go_enter Tryd.func50, Tryd.ntmps50
    go_wp2
    go_ret
    exact ⟨ret_b F.out, rfl⟩
  by_cases e3 : k = 3
  · subst e3
    have F := Lib.hid (show true = lvlV 3 from rfl)
    go_enter Tryd.func50, Tryd.ntmps50
    go_wp2
    go_ret
    exact ⟨ret_b F.out, rfl⟩
  by_cases e4 : k = 4
  · subst e4
    have F := Lib.hid (show true = lvlV 4 from rfl)
    go_enter Tryd.func50, Tryd.ntmps50
    go_wp2
    go_ret
    exact ⟨ret_b F.out, rfl⟩
  by_cases e7 : k = 7
  · subst e7
    have F := Lib.hid (show true = lvlV 7 from rfl)
    go_enter Tryd.func50, Tryd.ntmps50
    go_wp2
    go_ret
    exact ⟨ret_b F.out, rfl⟩
  by_cases e8 : k = 8
  · subst e8
    have F := Lib.hid (show true = lvlV 8 from rfl)
    go_enter Tryd.func50, Tryd.ntmps50
    go_wp2
    go_ret
    exact ⟨ret_b F.out, rfl⟩
  by_cases e9 : k = 9
  · subst e9
    have F := Lib.hid (show true = lvlV 9 from rfl)
    go_enter Tryd.func50, Tryd.ntmps50
    go_wp2
    go_ret
    exact ⟨ret_b F.out, rfl⟩
  by_cases e10 : k = 10
  · subst e10
    have F := Lib.hid (show true = lvlV 10 from rfl)
    go_enter Tryd.func50, Tryd.ntmps50
    go_wp2
    go_ret
    exact ⟨ret_b F.out, rfl⟩
  by_cases e11 : k = 11
  · subst e11
    have F := Lib.hid (show true = lvlV 11 from rfl)
    go_enter Tryd.func50, Tryd.ntmps50
    go_wp2
    go_ret
    exact ⟨ret_b F.out, rfl⟩
  by_cases e12 : k = 12
  · subst e12
    have F := Lib.hid (show true = lvlV 12 from rfl)
    go_enter Tryd.func50, Tryd.ntmps50
    go_wp2
    go_ret
    exact ⟨ret_b F.out, rfl⟩
  have F := Lib.hid (show false = lvlV k from by unfold lvlV; symm; apply decide_eq_false; omega)
  have b2 : (k == 2) = false := by simpa using e2
  have b3 : (k == 3) = false := by simpa using e3
  have b4 : (k == 4) = false := by simpa using e4
  have b7 : (k == 7) = false := by simpa using e7
  have b8 : (k == 8) = false := by simpa using e8
  have b9 : (k == 9) = false := by simpa using e9
  have b10 : (k == 10) = false := by simpa using e10
  have b11 : (k == 11) = false := by simpa using e11
  have b12 : (k == 12) = false := by simpa using e12
  clear e2 e3 e4 e7 e8 e9 e10 e11 e12
  go_enter Tryd.func50, Tryd.ntmps50
  go_wp2
  go_ret
  exact ⟨ret_b F.out, rfl⟩

theorem spec_cons (k : Int) (w : World) : Calls Tryd.prog 42 #[.int .i64 k] w fun e w' => e = .returned (.bool (consV k)) ∧ w = w' := by
  by_cases e3 : k = 3
  · subst e3
    have F := Lib.hid (show true = consV 3 from rfl)
    go_enter Tryd.func42, Tryd.ntmps42
    go_wp2
    go_ret
    exact ⟨ret_b F.out, rfl⟩
  by_cases e7 : k = 7
  · subst e7
    have F := Lib.hid (show true = consV 7 from rfl)
    go_enter Tryd.func42, Tryd.ntmps42
    go_wp2
    go_ret
    exact ⟨ret_b F.out, rfl⟩
  by_cases e8 : k = 8
  · subst e8
    have F := Lib.hid (show true = consV 8 from rfl)
    go_enter Tryd.func42, Tryd.ntmps42
    go_wp2
    go_ret
    exact ⟨ret_b F.out, rfl⟩
  by_cases e10 : k = 10
  · subst e10
    have F := Lib.hid (show true = consV 10 from rfl)
    go_enter Tryd.func42, Tryd.ntmps42
    go_wp2
    go_ret
    exact ⟨ret_b F.out, rfl⟩
  by_cases e11 : k = 11
  · subst e11
    have F := Lib.hid (show true = consV 11 from rfl)
    go_enter Tryd.func42, Tryd.ntmps42
    go_wp2
    go_ret
    exact ⟨ret_b F.out, rfl⟩
  have F := Lib.hid (show false = consV k from by unfold consV; symm; apply decide_eq_false; omega)
  have b3 : (k == 3) = false := by simpa using e3
  have b7 : (k == 7) = false := by simpa using e7
  have b8 : (k == 8) = false := by simpa using e8
  have b10 : (k == 10) = false := by simpa using e10
  have b11 : (k == 11) = false := by simpa using e11
  clear e3 e7 e8 e10 e11
  go_enter Tryd.func42, Tryd.ntmps42
  go_wp2
  go_ret
  exact ⟨ret_b F.out, rfl⟩

theorem spec_kind10 (k : Int) (w : World) : Calls Tryd.prog 28 #[.int .i64 k] w fun e w' => e = .returned (.bool (inV k 1 12)) ∧ w = w' := by
    go_enter Tryd.func28, Tryd.ntmps28
    go_wp2_with (go_at_call 31; refine (specIn _ _ _ _).mono ?_; rintro e w' ⟨rfl, rfl⟩)
    go_ret
    exact ⟨rfl, rfl⟩

theorem spec_allow (k l : Int) (w : World) : Calls Tryd.prog 40 #[.int .i64 k, .int .i64 l] w fun e w' => e = .returned (.bool (allowV k l)) ∧ w = w' := by
  by_cases hl : lvlV k = true
  · have F := Lib.hid (show inV l 0 8 = allowV k l from by unfold allowV; rw [if_pos hl])
    go_enter Tryd.func40, Tryd.ntmps40
    go_wp2_with (first | (go_at_call 50; refine (spec_lvl _ _).mono ?_; rintro e w' ⟨rfl, rfl⟩) | (go_at_call 31; refine (specIn _ _ _ _).mono ?_; rintro e w' ⟨rfl, rfl⟩) | (go_at_call 28; refine (spec_kind10 _ _).mono ?_; rintro e w' ⟨rfl, rfl⟩))
    go_ret
    exact ⟨ret_b F.out, rfl⟩
  · have hl2 : lvlV k = false := by simpa using hl
    clear hl
    by_cases hk : inV k 1 12 = true
    · have F := Lib.hid (show (l == 0) = allowV k l from by unfold allowV; rw [hl2, hk]; simp)
      go_enter Tryd.func40, Tryd.ntmps40
      go_wp2_with (first | (go_at_call 50; refine (spec_lvl _ _).mono ?_; rintro e w' ⟨rfl, rfl⟩) | (go_at_call 31; refine (specIn _ _ _ _).mono ?_; rintro e w' ⟨rfl, rfl⟩) | (go_at_call 28; refine (spec_kind10 _ _).mono ?_; rintro e w' ⟨rfl, rfl⟩))
      go_ret
      exact ⟨ret_b F.out, rfl⟩
    · have hk2 : inV k 1 12 = false := by simpa using hk
      clear hk
      have F := Lib.hid (show false = allowV k l from by unfold allowV; rw [hl2, hk2]; simp)
      go_enter Tryd.func40, Tryd.ntmps40
      go_wp2_with (first | (go_at_call 50; refine (spec_lvl _ _).mono ?_; rintro e w' ⟨rfl, rfl⟩) | (go_at_call 31; refine (specIn _ _ _ _).mono ?_; rintro e w' ⟨rfl, rfl⟩) | (go_at_call 28; refine (spec_kind10 _ _).mono ?_; rintro e w' ⟨rfl, rfl⟩))
      go_ret
      exact ⟨ret_b F.out, rfl⟩

theorem impl_allow (k l : Int) (w : World) : Calls Tryd.prog 38 #[.int .i64 k, .int .i64 l] w fun e w' => e = .returned (.bool (allowV k l)) ∧ w = w' := by
  by_cases hl : lvlV k = true
  · by_cases h0 : 0 ≤ l
    · have F := Lib.hid (show decide (l ≤ 8) = allowV k l from by unfold allowV inV; rw [if_pos hl]; simp [h0])
      go_enter Tryd.func38, Tryd.ntmps38
      go_wp2_with (first | (go_at_call 39; refine (impl_lvl _ _).mono ?_; rintro e w' ⟨rfl, rfl⟩) | (go_at_call 30; refine (impl_has 8190 _ (by decide) (by decide) _).mono ?_; rintro e w' ⟨rfl, rfl⟩; rw [bit_all12]))
      go_ret
      exact ⟨ret_b F.out, rfl⟩
    · have F := Lib.hid (show false = allowV k l from by unfold allowV; rw [if_pos hl]; exact (decide_eq_false (fun h => h0 h.1)).symm)
      go_enter Tryd.func38, Tryd.ntmps38
      go_wp2_with (first | (go_at_call 39; refine (impl_lvl _ _).mono ?_; rintro e w' ⟨rfl, rfl⟩) | (go_at_call 30; refine (impl_has 8190 _ (by decide) (by decide) _).mono ?_; rintro e w' ⟨rfl, rfl⟩; rw [bit_all12]))
      go_ret
      exact ⟨ret_b F.out, rfl⟩
  · have hl2 : lvlV k = false := by simpa using hl
    clear hl
    by_cases hk : inV k 1 12 = true
    · have F := Lib.hid (show (l == 0) = allowV k l from by unfold allowV; rw [hl2, hk]; simp)
      go_enter Tryd.func38, Tryd.ntmps38
      go_wp2_with (first | (go_at_call 39; refine (impl_lvl _ _).mono ?_; rintro e w' ⟨rfl, rfl⟩) | (go_at_call 30; refine (impl_has 8190 _ (by decide) (by decide) _).mono ?_; rintro e w' ⟨rfl, rfl⟩; rw [bit_all12]))
      go_ret
      exact ⟨ret_b F.out, rfl⟩
    · have hk2 : inV k 1 12 = false := by simpa using hk
      clear hk
      have F := Lib.hid (show false = allowV k l from by unfold allowV; rw [hl2, hk2]; simp)
      go_enter Tryd.func38, Tryd.ntmps38
      go_wp2_with (first | (go_at_call 39; refine (impl_lvl _ _).mono ?_; rintro e w' ⟨rfl, rfl⟩) | (go_at_call 30; refine (impl_has 8190 _ (by decide) (by decide) _).mono ?_; rintro e w' ⟨rfl, rfl⟩; rw [bit_all12]))
      go_ret
      exact ⟨ret_b F.out, rfl⟩

theorem spec_dup (a k l : Int) (w : World) : Calls Tryd.prog 41 #[.int .i64 a, .int .i64 k, .int .i64 l] w fun e w' => e = .returned (.bool (dupV a k l)) ∧ w = w' := by
  by_cases ha : inV a 0 8 = true
  · have HA := Lib.hid (show inV a 0 8 = true from ha)
    by_cases hb : allowV k l = true
    · by_cases k6 : k = 6
      · subst k6
        have F := Lib.hid (show true = dupV a 6 l from by unfold dupV; rw [HA.out, hb]; rfl)
        go_enter Tryd.func41, Tryd.ntmps41
        go_wp2_with (first | (go_at_call 40; refine (spec_allow _ _ _).mono ?_; rintro e w' ⟨rfl, rfl⟩) | (go_at_call 31; refine (specIn _ _ _ _).mono ?_; rintro e w' ⟨rfl, rfl⟩) | (go_at_call 50; refine (spec_lvl _ _).mono ?_; rintro e w' ⟨rfl, rfl⟩))
        go_ret
        exact ⟨ret_b F.out, rfl⟩
      · by_cases k12 : k = 12
        · subst k12
          have F := Lib.hid (show true = dupV a 12 l from by unfold dupV; rw [HA.out, hb]; rfl)
          go_enter Tryd.func41, Tryd.ntmps41
          go_wp2_with (first | (go_at_call 40; refine (spec_allow _ _ _).mono ?_; rintro e w' ⟨rfl, rfl⟩) | (go_at_call 31; refine (specIn _ _ _ _).mono ?_; rintro e w' ⟨rfl, rfl⟩) | (go_at_call 50; refine (spec_lvl _ _).mono ?_; rintro e w' ⟨rfl, rfl⟩))
          go_ret
          exact ⟨ret_b F.out, rfl⟩
        · have b6 : (k == 6) = false := by simpa using k6
          have b12 : (k == 12) = false := by simpa using k12
          have kd : decide (k = 6 ∨ k = 12) = false := decide_eq_false (by omega)
          clear k6 k12
          by_cases hl : lvlV k = true
          · have F := Lib.hid (show decide (a < l) = dupV a k l from by unfold dupV; rw [HA.out, hb, kd, hl]; simp)
            clear kd
            go_enter Tryd.func41, Tryd.ntmps41
            go_wp2_with (first | (go_at_call 40; refine (spec_allow _ _ _).mono ?_; rintro e w' ⟨rfl, rfl⟩) | (go_at_call 31; refine (specIn _ _ _ _).mono ?_; rintro e w' ⟨rfl, rfl⟩) | (go_at_call 50; refine (spec_lvl _ _).mono ?_; rintro e w' ⟨rfl, rfl⟩))
            go_ret
            exact ⟨ret_b F.out, rfl⟩
          · have hl2 : lvlV k = false := by simpa using hl
            have F := Lib.hid (show false = dupV a k l from by unfold dupV; rw [HA.out, hb, kd, hl2]; rfl)
            clear kd hl
            go_enter Tryd.func41, Tryd.ntmps41
            go_wp2_with (first | (go_at_call 40; refine (spec_allow _ _ _).mono ?_; rintro e w' ⟨rfl, rfl⟩) | (go_at_call 31; refine (specIn _ _ _ _).mono ?_; rintro e w' ⟨rfl, rfl⟩) | (go_at_call 50; refine (spec_lvl _ _).mono ?_; rintro e w' ⟨rfl, rfl⟩))
            go_ret
            exact ⟨ret_b F.out, rfl⟩
    · have hb2 : allowV k l = false := by simpa using hb
      have F := Lib.hid (show false = dupV a k l from by unfold dupV; rw [hb2]; simp)
      clear hb
      go_enter Tryd.func41, Tryd.ntmps41
      go_wp2_with (first | (go_at_call 40; refine (spec_allow _ _ _).mono ?_; rintro e w' ⟨rfl, rfl⟩) | (go_at_call 31; refine (specIn _ _ _ _).mono ?_; rintro e w' ⟨rfl, rfl⟩) | (go_at_call 50; refine (spec_lvl _ _).mono ?_; rintro e w' ⟨rfl, rfl⟩))
      go_ret
      exact ⟨ret_b F.out, rfl⟩
  · have ha2 : inV a 0 8 = false := by simpa using ha
    have F := Lib.hid (show false = dupV a k l from by unfold dupV; rw [ha2]; simp)
    clear ha
    go_enter Tryd.func41, Tryd.ntmps41
    go_wp2_with (first | (go_at_call 40; refine (spec_allow _ _ _).mono ?_; rintro e w' ⟨rfl, rfl⟩) | (go_at_call 31; refine (specIn _ _ _ _).mono ?_; rintro e w' ⟨rfl, rfl⟩) | (go_at_call 50; refine (spec_lvl _ _).mono ?_; rintro e w' ⟨rfl, rfl⟩))
    go_ret
    exact ⟨ret_b F.out, rfl⟩

theorem impl_dup (a k l : Int) (w : World) : Calls Tryd.prog 27 #[.int .i64 a, .int .i64 k, .int .i64 l] w fun e w' => e = .returned (.bool (dupV a k l)) ∧ w = w' := by
  by_cases ha : allowV 4 a = true
  · have HA := Lib.hid (show inV a 0 8 = true from (show allowV 4 a = inV a 0 8 from rfl) ▸ ha)
    by_cases hb : allowV k l = true
    · by_cases k6 : k = 6
      · subst k6
        have F := Lib.hid (show true = dupV a 6 l from by unfold dupV; rw [HA.out, hb]; rfl)
        go_enter Tryd.func27, Tryd.ntmps27
        go_wp2_with (first | (go_at_call 38; refine (impl_allow _ _ _).mono ?_; rintro e w' ⟨rfl, rfl⟩) | (go_at_call 39; refine (impl_lvl _ _).mono ?_; rintro e w' ⟨rfl, rfl⟩))
        go_ret
        exact ⟨ret_b F.out, rfl⟩
      · by_cases k12 : k = 12
        · subst k12
          have F := Lib.hid (show true = dupV a 12 l from by unfold dupV; rw [HA.out, hb]; rfl)
          go_enter Tryd.func27, Tryd.ntmps27
          go_wp2_with (first | (go_at_call 38; refine (impl_allow _ _ _).mono ?_; rintro e w' ⟨rfl, rfl⟩) | (go_at_call 39; refine (impl_lvl _ _).mono ?_; rintro e w' ⟨rfl, rfl⟩))
          go_ret
          exact ⟨ret_b F.out, rfl⟩
        · have b6 : (k == 6) = false := by simpa using k6
          have b12 : (k == 12) = false := by simpa using k12
          have kd : decide (k = 6 ∨ k = 12) = false := decide_eq_false (by omega)
          clear k6 k12
          by_cases hl : lvlV k = true
          · have F := Lib.hid (show decide (a < l) = dupV a k l from by unfold dupV; rw [HA.out, hb, kd, hl]; simp)
            clear kd
            go_enter Tryd.func27, Tryd.ntmps27
            go_wp2_with (first | (go_at_call 38; refine (impl_allow _ _ _).mono ?_; rintro e w' ⟨rfl, rfl⟩) | (go_at_call 39; refine (impl_lvl _ _).mono ?_; rintro e w' ⟨rfl, rfl⟩))
            go_ret
            exact ⟨ret_b F.out, rfl⟩
          · have hl2 : lvlV k = false := by simpa using hl
            have F := Lib.hid (show false = dupV a k l from by unfold dupV; rw [HA.out, hb, kd, hl2]; rfl)
            clear kd hl
            go_enter Tryd.func27, Tryd.ntmps27
            go_wp2_with (first | (go_at_call 38; refine (impl_allow _ _ _).mono ?_; rintro e w' ⟨rfl, rfl⟩) | (go_at_call 39; refine (impl_lvl _ _).mono ?_; rintro e w' ⟨rfl, rfl⟩))
            go_ret
            exact ⟨ret_b F.out, rfl⟩
    · have hb2 : allowV k l = false := by simpa using hb
      have F := Lib.hid (show false = dupV a k l from by unfold dupV; rw [hb2]; simp)
      clear hb
      go_enter Tryd.func27, Tryd.ntmps27
      go_wp2_with (first | (go_at_call 38; refine (impl_allow _ _ _).mono ?_; rintro e w' ⟨rfl, rfl⟩) | (go_at_call 39; refine (impl_lvl _ _).mono ?_; rintro e w' ⟨rfl, rfl⟩))
      go_ret
      exact ⟨ret_b F.out, rfl⟩
  · have ha2 : allowV 4 a = false := by simpa using ha
    have F := Lib.hid (show false = dupV a k l from by unfold dupV; rw [show inV a 0 8 = false from (show allowV 4 a = inV a 0 8 from rfl) ▸ ha2]; simp)
    clear ha
    go_enter Tryd.func27, Tryd.ntmps27
    go_wp2_with (first | (go_at_call 38; refine (impl_allow _ _ _).mono ?_; rintro e w' ⟨rfl, rfl⟩) | (go_at_call 39; refine (impl_lvl _ _).mono ?_; rintro e w' ⟨rfl, rfl⟩))
    go_ret
    exact ⟨ret_b F.out, rfl⟩

end Go.Proofs.YtgobiejokgcmmaaDoor.Con
