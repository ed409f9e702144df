/-
  Contracts of the functions IsUpper and IsLower (the model's and the program's): the answers are 'upperB s', 'lowerB s'; what was in memory stays as it was. Condition: the string's size is at most 9223372036854775807, as every string's is.
-/
import Derived.Test.YtpafjhnamdeagaaDoorName
namespace Go.Proofs.YtpafjhnamdeagaaDoor.Con
open Go.RowKit Go.PlainAid

theorem name_out (s : ByteArray) (h : nameB s = true) : 1 ≤ s.size ∧ s.size ≤ 12 ∧ letB (bt s 0) = true ∧ kwB s.toList = false := by
  unfold nameB at h
  simp only [Bool.and_eq_true, decide_eq_true_eq, Bool.not_eq_true'] at h
  exact ⟨h.1.1.1.1, h.1.1.1.2, h.1.1.2, h.1.2⟩
theorem up_iff (c : Int) (h : letB c = true) : upB c = decide (c ≤ 90) := by
  unfold letB upB loB at h
  unfold upB
  simp at h ⊢
  omega
theorem lo_iff (c : Int) (h : letB c = true) : loB c = decide (97 ≤ c) := by
  unfold letB upB loB at h
  unfold loB
  simp at h ⊢
  omega

theorem spec_upper (s : ByteArray) (hs : s.size ≤ 9223372036854775807) (w : World) : Calls Tryd.prog 102 #[.string s] w fun e w' => e = .returned (.bool (upperB s)) ∧ Gw w w' := by
  have hb := get_bt s
  cases hn : nameB s with
  | false =>
    have F := Lib.hid (show false = upperB s from by unfold upperB; rw [hn]; rfl)
    go_enter Tryd.func102, Tryd.ntmps102
    go_wp2_with (go_at_call 108; refine (spec_name _ hs _).mono ?_; rintro e w' ⟨rfl, hg⟩)
    go_ret
    exact ⟨ret_b F.out, by assumption⟩
  | true =>
    obtain ⟨o1, o2, o3, _⟩ := name_out s hn
    have hq := up_iff _ o3
    have c0 := bt_nonneg s 0
    have c1 := bt_le s 0
    by_cases ht : bt s 0 ≤ 90
    · have F := Lib.hid (show true = upperB s from by unfold upperB; rw [hn, hq]; simp [ht])
      clear hq o3
      go_enter Tryd.func102, Tryd.ntmps102
      go_wp2_with (go_at_call 108; refine (spec_name _ hs _).mono ?_; rintro e w' ⟨rfl, hg⟩)
      go_ret
      exact ⟨ret_b F.out, by assumption⟩
    · have F := Lib.hid (show decide (bt s 0 ≤ 90) = upperB s from by unfold upperB; rw [hn, hq]; rfl)
      clear hq o3
      go_enter Tryd.func102, Tryd.ntmps102
      go_wp2_with (go_at_call 108; refine (spec_name _ hs _).mono ?_; rintro e w' ⟨rfl, hg⟩)
      go_ret
      exact ⟨ret_b F.out, by assumption⟩

theorem spec_lower (s : ByteArray) (hs : s.size ≤ 9223372036854775807) (w : World) : Calls Tryd.prog 83 #[.string s] w fun e w' => e = .returned (.bool (lowerB s)) ∧ Gw w w' := by
  have hb := get_bt s
  cases hn : nameB s with
  | false =>
    have F := Lib.hid (show false = lowerB s from by unfold lowerB; rw [hn]; rfl)
    go_enter Tryd.func83, Tryd.ntmps83
    go_wp2_with (go_at_call 108; refine (spec_name _ hs _).mono ?_; rintro e w' ⟨rfl, hg⟩)
    go_ret
    exact ⟨ret_b F.out, by assumption⟩
  | true =>
    obtain ⟨o1, o2, o3, _⟩ := name_out s hn
    have hq := lo_iff _ o3
    have c0 := bt_nonneg s 0
    have c1 := bt_le s 0
    by_cases ht : 97 ≤ bt s 0
    · have F := Lib.hid (show true = lowerB s from by unfold lowerB; rw [hn, hq]; simp [ht])
      clear hq o3
      go_enter Tryd.func83, Tryd.ntmps83
      go_wp2_with (go_at_call 108; refine (spec_name _ hs _).mono ?_; rintro e w' ⟨rfl, hg⟩)
      go_ret
      exact ⟨ret_b F.out, by assumption⟩
    · have F := Lib.hid (show decide (97 ≤ bt s 0) = lowerB s from by unfold lowerB; rw [hn, hq]; rfl)
      clear hq o3
      go_enter Tryd.func83, Tryd.ntmps83
      go_wp2_with (go_at_call 108; refine (spec_name _ hs _).mono ?_; rintro e w' ⟨rfl, hg⟩)
      go_ret
      exact ⟨ret_b F.out, by assumption⟩

theorem impl_upper (s : ByteArray) (hs : s.size ≤ 9223372036854775807) (w : World) : Calls Tryd.prog 89 #[.string s] w fun e w' => e = .returned (.bool (upperB s)) ∧ Gw w w' := by
  have hb := get_bt s
  cases hn : nameB s with
  | false =>
    have F := Lib.hid (show false = upperB s from by unfold upperB; rw [hn]; rfl)
    go_enter Tryd.func89, Tryd.ntmps89
    go_wp2_with (first | (go_at_call 91; refine (impl_name _ hs _).mono ?_; rintro e w' ⟨rfl, hg⟩) | (go_at_call 111; refine (impl_up _ _).mono ?_; rintro e w' ⟨rfl, rfl⟩))
    go_ret
    exact ⟨ret_b F.out, by assumption⟩
  | true =>
    obtain ⟨o1, o2, o3, _⟩ := name_out s hn
    have c0 := bt_nonneg s 0
    have c1 := bt_le s 0
    have F := Lib.hid (show upB (bt s 0) = upperB s from by unfold upperB; rw [hn]; rfl)
    clear o3
    go_enter Tryd.func89, Tryd.ntmps89
    go_wp2_with (first | (go_at_call 91; refine (impl_name _ hs _).mono ?_; rintro e w' ⟨rfl, hg⟩) | (go_at_call 111; refine (impl_up _ _).mono ?_; rintro e w' ⟨rfl, rfl⟩))
    go_ret
    exact ⟨ret_b F.out, by assumption⟩

theorem impl_lower (s : ByteArray) (hs : s.size ≤ 9223372036854775807) (w : World) : Calls Tryd.prog 55 #[.string s] w fun e w' => e = .returned (.bool (lowerB s)) ∧ Gw w w' := by
  have hb := get_bt s
  cases hn : nameB s with
  | false =>
    have F := Lib.hid (show false = lowerB s from by unfold lowerB; rw [hn]; rfl)
    go_enter Tryd.func55, Tryd.ntmps55
    go_wp2_with (first | (go_at_call 91; refine (impl_name _ hs _).mono ?_; rintro e w' ⟨rfl, hg⟩) | (go_at_call 92; refine (impl_lo _ _).mono ?_; rintro e w' ⟨rfl, rfl⟩))
    go_ret
    exact ⟨ret_b F.out, by assumption⟩
  | true =>
    obtain ⟨o1, o2, o3, _⟩ := name_out s hn
    have c0 := bt_nonneg s 0
    have c1 := bt_le s 0
    have F := Lib.hid (show loB (bt s 0) = lowerB s from by unfold lowerB; rw [hn]; rfl)
    clear o3
    go_enter Tryd.func55, Tryd.ntmps55
    go_wp2_with (first | (go_at_call 91; refine (impl_name _ hs _).mono ?_; rintro e w' ⟨rfl, hg⟩) | (go_at_call 92; refine (impl_lo _ _).mono ?_; rintro e w' ⟨rfl, rfl⟩))
    go_ret
    exact ⟨ret_b F.out, by assumption⟩

end Go.Proofs.YtpafjhnamdeagaaDoor.Con
