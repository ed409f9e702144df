/-
  Contracts of the functions IsName, IsUpper and IsLower (the model's and the program's): the answers are 'nameB s', 'upperB s', 'lowerB s'; what was in memory stays as it was. Condition: the string's size is at most 9223372036854775807, as every string's is.
-/
import Derived.Test.YtpafjhnamdeagaaDoorLet
namespace Go.Proofs.YtpafjhnamdeagaaDoor.Con
open Go.RowKit Go.PlainAid

def ldB (c : Int) : Bool := letB c || digB c
/-- Is the text a name? -/
def nameB (s : ByteArray) : Bool := decide (1 ≤ s.size) && decide (s.size ≤ 12) && letB (bt s 0) && !kwB s.toList && (List.range s.size).all fun j => ldB (bt s j)
def upperB (s : ByteArray) : Bool := nameB s && upB (bt s 0)
def lowerB (s : ByteArray) : Bool := nameB s && loB (bt s 0)

theorem name_size0 (s : ByteArray) (h : s.size < 1) : nameB s = false := by unfold nameB; simp [show ¬ 1 ≤ s.size by omega]
theorem name_size13 (s : ByteArray) (h : 12 < s.size) : nameB s = false := by unfold nameB; simp [show ¬ s.size ≤ 12 by omega]
theorem name_let (s : ByteArray) (h : letB (bt s 0) = false) : nameB s = false := by unfold nameB; simp [h]
theorem name_kw (s : ByteArray) (h : kwB s.toList = true) : nameB s = false := by unfold nameB; simp [h]
theorem name_at (s : ByteArray) (k : Nat) (hk : k < s.size) (h : ldB (bt s k) = false) : nameB s = false := by
  cases hn : nameB s with
  | false => rfl
  | true =>
    unfold nameB at hn
    simp only [Bool.and_eq_true, List.all_eq_true, List.mem_range] at hn
    rw [hn.2 k hk] at h
    exact absurd h (by decide)
theorem name_yes (s : ByteArray) (h1 : 1 ≤ s.size) (h2 : s.size ≤ 12) (h3 : letB (bt s 0) = true) (h4 : kwB s.toList = false) (h5 : ∀ j, j < s.size → ldB (bt s j) = true) : nameB s = true := by
  unfold nameB
  simp only [Bool.and_eq_true, List.all_eq_true, List.mem_range, decide_eq_true_eq]
  exact ⟨⟨⟨⟨h1, h2⟩, h3⟩, by rw [h4]; rfl⟩, h5⟩

set_option maxHeartbeats 400000 in
theorem spec_name (s : ByteArray) (hs : s.size ≤ 9223372036854775807) (w : World) : Calls Tryd.prog 108 #[.string s] w fun e w' => e = .returned (.bool (nameB s)) ∧ Gw w w' := by
  have hb := get_bt s
  have b0 := bt_nonneg s
  have b1 := bt_le s
  by_cases z : s.size < 1
  · have F := Lib.hid (name_size0 s z).symm
    go_enter Tryd.func108, Tryd.ntmps108
    go_wp2_with fail
    go_ret
    exact ⟨ret_b F.out, Gw.refl _⟩
  by_cases z2 : 12 < s.size
  · have F := Lib.hid (name_size13 s z2).symm
    go_enter Tryd.func108, Tryd.ntmps108
    go_wp2_with fail
    go_ret
    exact ⟨ret_b F.out, Gw.refl _⟩
  have b00 := b0 0
  have b10 := b1 0
  cases hl : letB (bt s 0) with
  | false =>
    have F := Lib.hid (name_let s hl).symm
    go_enter Tryd.func108, Tryd.ntmps108
    go_wp2_with (go_at_call 126; refine (spec_letter _ b00 b10 _).mono ?_; rintro e w' ⟨rfl, rfl⟩)
    go_ret
    exact ⟨ret_b F.out, Gw.refl _⟩
  | true =>
    cases hk : kwB s.toList with
    | true =>
      have F := Lib.hid (name_kw s hk).symm
      go_enter Tryd.func108, Tryd.ntmps108
      go_wp2_with (first | (go_at_call 126; refine (spec_letter _ b00 b10 _).mono ?_; rintro e w' ⟨rfl, rfl⟩) | (go_at_call 127; refine (spec_kw _ _).mono ?_; rintro e w' ⟨rfl, hg⟩))
      go_ret
      exact ⟨ret_b F.out, by assumption⟩
    | false =>
      have HL := Lib.hid hl
      have HK := Lib.hid hk
      go_enter Tryd.func108, Tryd.ntmps108
      go_wp2_with (first | (go_at_call 126; refine (spec_letter _ b00 b10 _).mono ?_; rintro e w' ⟨rfl, rfl⟩) | (go_at_call 127; refine (spec_kw _ _).mono ?_; rintro e w' ⟨rfl, hg⟩))
      clear hl hk
      go_loop [3] (fun i => ∃ k : Nat, k ≤ s.size ∧ i = .int .i64 k ∧ ∀ j, j < k → ldB (bt s j) = true) (fun i => s.size - (intOf i).toNat)
      case atStart => exact ⟨0, by omega, rfl, fun j hj => by omega⟩
      case round =>
        obtain ⟨k, hkl, rfl, hall0⟩ := hrel
        have hall := Lib.hid hall0
        clear hall0
        by_cases hlt : k < s.size
        · have c0 := b0 k
          have c1 := b1 k
          cases hlk : letB (bt s k) with
          | true =>
            go_wp2_with (go_at_call 126; refine (spec_letter _ c0 c1 _).mono ?_; rintro e w' ⟨rfl, rfl⟩)
            go_round
            case rel => exact ⟨k + 1, by omega, by go_num, fun j hj => if h : j = k then (by subst h; unfold ldB; rw [hlk]; rfl) else hall.out j (by omega)⟩
            case measure => simp [intOf]; omega
          | false =>
            cases hdk : digB (bt s k) with
            | true =>
              go_wp2_with (first | (go_at_call 126; refine (spec_letter _ c0 c1 _).mono ?_; rintro e w' ⟨rfl, rfl⟩) | (go_at_call 128; refine (spec_digit _ c0 c1 _).mono ?_; rintro e w' ⟨rfl, rfl⟩))
              go_round
              case rel => exact ⟨k + 1, by omega, by go_num, fun j hj => if h : j = k then (by subst h; unfold ldB; rw [hlk, hdk]; rfl) else hall.out j (by omega)⟩
              case measure => simp [intOf]; omega
            | false =>
              have F := Lib.hid (name_at s k hlt (by unfold ldB; rw [hlk, hdk]; rfl)).symm
              go_wp2_with (first | (go_at_call 126; refine (spec_letter _ c0 c1 _).mono ?_; rintro e w' ⟨rfl, rfl⟩) | (go_at_call 128; refine (spec_digit _ c0 c1 _).mono ?_; rintro e w' ⟨rfl, rfl⟩))
              go_ret
              exact ⟨ret_b F.out, by assumption⟩
        · have F := Lib.hid (name_yes s (by omega) (by omega) HL.out HK.out (fun j hj => hall.out j (by omega))).symm
          go_wp2_with fail
          go_ret
          exact ⟨ret_b F.out, by assumption⟩

theorem empty_yes (s : ByteArray) (h : s.size < 1) : s.toList.isEmpty = true := by
  rw [ByteArray.toList_eq, List.isEmpty_iff_length_eq_zero, Array.length_toList]
  show s.size = 0
  omega
theorem empty_no (s : ByteArray) (h : ¬ s.size < 1) : s.toList.isEmpty = false := by
  cases he : s.toList.isEmpty with
  | false => rfl
  | true =>
    rw [ByteArray.toList_eq, List.isEmpty_iff_length_eq_zero, Array.length_toList] at he
    have : s.size = 0 := he
    omega

theorem let_high (c : Int) (h : 128 ≤ c) : letB c = false := by unfold letB upB loB; simp; omega
theorem dig_high (c : Int) (h : 128 ≤ c) : digB c = false := by unfold digB; simp; omega

set_option maxHeartbeats 400000 in
theorem impl_name (s : ByteArray) (hs : s.size ≤ 9223372036854775807) (w : World) : Calls Tryd.prog 91 #[.string s] w fun e w' => e = .returned (.bool (nameB s)) ∧ Gw w w' := by
  by_cases z : s.size < 1
  · have F := Lib.hid (name_size0 s z).symm
    have he := empty_yes s z
    go_enter Tryd.func91, Tryd.ntmps91
    go_wp2_with fail
    go_ret
    exact ⟨ret_b F.out, Gw.refl _⟩
  have he := empty_no s z
  by_cases z2 : 12 < s.size
  · have F := Lib.hid (name_size13 s z2).symm
    go_enter Tryd.func91, Tryd.ntmps91
    go_wp2_with fail
    go_ret
    exact ⟨ret_b F.out, Gw.refl _⟩
  cases hk : kwB s.toList with
  | true =>
    have F := Lib.hid (name_kw s hk).symm
    go_enter Tryd.func91, Tryd.ntmps91
    go_wp2_with (go_at_call 113; refine (impl_kw _ _).mono ?_; rintro e w' ⟨rfl, rfl⟩)
    go_ret
    exact ⟨ret_b F.out, Gw.refl _⟩
  | false =>
    have HK := Lib.hid hk
    go_enter Tryd.func91, Tryd.ntmps91
    go_wp2_with (go_at_call 113; refine (impl_kw _ _).mono ?_; rintro e w' ⟨rfl, rfl⟩)
    clear hk
    go_loopw [3] (fun _ wr => ∃ p : Nat, p ≤ s.size ∧ wr = w.iter s p ∧ (∀ j, j < p → ldB (bt s j) = true) ∧ (p = 0 ∨ letB (bt s 0) = true)) (fun _ wr => s.size - wr.iterPos w.heap.size)
    case atStart => exact ⟨0, by omega, rfl, fun j hj => by omega, Or.inl rfl⟩
    case round =>
      obtain ⟨p, hp, rfl, hall0, hf0⟩ := hrel
      have hall := Lib.hid hall0
      have hf := Lib.hid hf0
      clear hall0 hf0
      by_cases hlt : p < s.size
      · by_cases ha : (s[p]'hlt).toNat < 128
        · have hnx : ∀ ty, (Instr.next (.pointer (some ⟨w.heap.size, 0, none⟩)) true ty).run Tryd.prog (w.iter s p) = .ok (.tuple #[.bool true, .int .i64 p, .int .i32 (bt s p)]) (w.iter s (p + 1)) := fun ty => by
            rw [← get_bt s p hlt]; exact run_next_ascii w s p ty hlt ha
          clear ha
          cases hlk : letB (bt s p) with
          | true =>
            go_wp2_with (go_at_call 114; refine (impl_letter _ _).mono ?_; rintro e w' ⟨rfl, rfl⟩)
            go_roundw
            case rel => exact ⟨p + 1, by omega, rfl, fun j hj => if h : j = p then (by subst h; unfold ldB; rw [hlk]; rfl) else hall.out j (by omega), Or.inr (hf.out.elim (fun h => by subst h; exact hlk) id)⟩
            case measure => simp; omega
          | false =>
            by_cases hp0 : p = 0
            · subst hp0
              have F := Lib.hid (name_let s hlk).symm
              go_wp2_with (go_at_call 114; refine (impl_letter _ _).mono ?_; rintro e w' ⟨rfl, rfl⟩)
              go_ret
              exact ⟨ret_b F.out, (Gw.refl _).iter _ _⟩
            · have hp1 : ((p : Int) == 0) = false := by simpa using hp0
              cases hdk : digB (bt s p) with
              | true =>
                go_wp2_with (first | (go_at_call 114; refine (impl_letter _ _).mono ?_; rintro e w' ⟨rfl, rfl⟩) | (go_at_call 115; refine (impl_dig _ _).mono ?_; rintro e w' ⟨rfl, rfl⟩))
                go_roundw
                case rel => exact ⟨p + 1, by omega, rfl, fun j hj => if h : j = p then (by subst h; unfold ldB; rw [hlk, hdk]; rfl) else hall.out j (by omega), Or.inr (hf.out.elim (fun h => absurd h hp0) id)⟩
                case measure => simp; omega
              | false =>
                have F := Lib.hid (name_at s p hlt (by unfold ldB; rw [hlk, hdk]; rfl)).symm
                go_wp2_with (first | (go_at_call 114; refine (impl_letter _ _).mono ?_; rintro e w' ⟨rfl, rfl⟩) | (go_at_call 115; refine (impl_dig _ _).mono ?_; rintro e w' ⟨rfl, rfl⟩))
                go_ret
                exact ⟨ret_b F.out, (Gw.refl _).iter _ _⟩
        · have hd := (decode_high s p hlt (by omega)).1
          have hbt : 128 ≤ bt s p := by rw [← get_bt s p hlt]; omega
          have F := Lib.hid (name_at s p hlt (by unfold ldB; rw [let_high _ hbt, dig_high _ hbt]; rfl)).symm
          have hnx : ∀ ty, (Instr.next (.pointer (some ⟨w.heap.size, 0, none⟩)) true ty).run Tryd.prog (w.iter s p) = _ := fun ty => run_next_any w s p ty hlt
          generalize (Utf8.decode s p).1 = c at hd hnx
          generalize (Utf8.decode s p).2 = n at hnx
          have l1 : letB (c : Int) = false := let_high _ (by omega)
          have d1 : digB (c : Int) = false := dig_high _ (by omega)
          clear ha hbt
          by_cases hp0 : p = 0
          · subst hp0
            go_wp2_with (first | (go_at_call 114; refine (impl_letter _ _).mono ?_; rintro e w' ⟨rfl, rfl⟩) | (go_at_call 115; refine (impl_dig _ _).mono ?_; rintro e w' ⟨rfl, rfl⟩))
            go_ret
            exact ⟨ret_b F.out, (Gw.refl _).iter _ _⟩
          · have hp1 : ((p : Int) == 0) = false := by simpa using hp0
            go_wp2_with (first | (go_at_call 114; refine (impl_letter _ _).mono ?_; rintro e w' ⟨rfl, rfl⟩) | (go_at_call 115; refine (impl_dig _ _).mono ?_; rintro e w' ⟨rfl, rfl⟩))
            go_ret
            exact ⟨ret_b F.out, (Gw.refl _).iter _ _⟩
      · have hnx : ∀ ty, (Instr.next (.pointer (some ⟨w.heap.size, 0, none⟩)) true ty).run Tryd.prog (w.iter s p) = _ := fun ty => run_next_end w s p ty hlt
        have F := Lib.hid (name_yes s (by omega) (by omega) (hf.out.elim (fun h => by omega) id) HK.out (fun j hj => hall.out j (by omega))).symm
        go_wp2_with fail
        go_ret
        exact ⟨ret_b F.out, (Gw.refl _).iter _ _⟩

end Go.Proofs.YtpafjhnamdeagaaDoor.Con
