/-
  Contracts of the two functions IsKeyword: both say whether a text is one of the eight keywords; what was in memory stays as it was. No condition but the one on a string's size that every row has.
-/
import Derived.Test.YtpafjhnamdeagaaDoorOperI
import Derived.WalkSpells
namespace Go.Proofs.YtpafjhnamdeagaaDoor.Con
open Go.RowKit

/-- Is the text a keyword? -/
def kwB (l : List UInt8) : Bool := l == [100, 97, 116, 97] || l == [100, 101, 102] || l == [108, 101, 116] || l == [105, 110] || l == [109, 97, 116, 99, 104] || l == [105, 102] || l == [116, 104, 101, 110] || l == [101, 108, 115, 101]

theorem impl_kw (s : ByteArray) (w : World) : Calls Tryd.prog 113 #[.string s] w fun e w' => e = .returned (.bool (kwB s.toList)) ∧ w = w' := by
  go_enter Tryd.func113, Tryd.ntmps113
  go_wp2
  all_goals first
    | (exfalso; simp_all; done)
    | (go_ret; exact ⟨ret_b (by unfold kwB; simp [*]), rfl⟩)

/-- The keyword at a place of the list. -/
def kwAt (i : Nat) : ByteArray := match i with | 0 => ⟨#[100, 97, 116, 97]⟩ | 1 => ⟨#[100, 101, 102]⟩ | 2 => ⟨#[108, 101, 116]⟩ | 3 => ⟨#[105, 110]⟩ | 4 => ⟨#[109, 97, 116, 99, 104]⟩ | 5 => ⟨#[105, 102]⟩ | 6 => ⟨#[116, 104, 101, 110]⟩ | _ => ⟨#[101, 108, 115, 101]⟩

theorem kwB_iff (l : List UInt8) : kwB l = true ↔ ∃ i, i < 8 ∧ (kwAt i).toList = l := by
  have e0 : (kwAt 0).toList = [100, 97, 116, 97] := by decide +kernel
  have e1 : (kwAt 1).toList = [100, 101, 102] := by decide +kernel
  have e2 : (kwAt 2).toList = [108, 101, 116] := by decide +kernel
  have e3 : (kwAt 3).toList = [105, 110] := by decide +kernel
  have e4 : (kwAt 4).toList = [109, 97, 116, 99, 104] := by decide +kernel
  have e5 : (kwAt 5).toList = [105, 102] := by decide +kernel
  have e6 : (kwAt 6).toList = [116, 104, 101, 110] := by decide +kernel
  have e7 : (kwAt 7).toList = [101, 108, 115, 101] := by decide +kernel
  unfold kwB
  simp only [Bool.or_eq_true, beq_iff_eq]
  constructor
  · rintro (((((((h | h) | h) | h) | h) | h) | h) | h)
    · exact ⟨0, by omega, by rw [e0, h]⟩
    · exact ⟨1, by omega, by rw [e1, h]⟩
    · exact ⟨2, by omega, by rw [e2, h]⟩
    · exact ⟨3, by omega, by rw [e3, h]⟩
    · exact ⟨4, by omega, by rw [e4, h]⟩
    · exact ⟨5, by omega, by rw [e5, h]⟩
    · exact ⟨6, by omega, by rw [e6, h]⟩
    · exact ⟨7, by omega, by rw [e7, h]⟩
  · rintro ⟨i, hi, rfl⟩
    obtain rfl | rfl | rfl | rfl | rfl | rfl | rfl | rfl : i = 0 ∨ i = 1 ∨ i = 2 ∨ i = 3 ∨ i = 4 ∨ i = 5 ∨ i = 6 ∨ i = 7 := by omega
    · simp [e0]
    · simp [e1]
    · simp [e2]
    · simp [e3]
    · simp [e4]
    · simp [e5]
    · simp [e6]
    · simp [e7]

theorem kws (w : World) : Calls Tryd.prog 134 #[] w fun e w' =>
    e = .returned (.slice (some ⟨w.heap.size, 0, none⟩) 8 8) ∧ (∀ i, i < 8 → w'.cell? ⟨w.heap.size, i, none⟩ = some (.string (kwAt i))) ∧ Gw w w' := by
  have K : ∀ P : Ending → World → Prop, P (.returned (.slice (some ⟨w.heap.size, 0, none⟩) 8 8)) (w.alloc (.cells #[.string (kwAt 0), .string (kwAt 1), .string (kwAt 2), .string (kwAt 3), .string (kwAt 4), .string (kwAt 5), .string (kwAt 6), .string (kwAt 7)] 9)) →
      Calls Tryd.prog 134 #[] w P := by
    intro P h
    unfold kwAt at h
    go_enter Tryd.func134, Tryd.ntmps134
    go_wp2
    exact h
  refine K _ ⟨rfl, fun i hi => ?_, (Gw.refl _).alloc _⟩
  obtain rfl | rfl | rfl | rfl | rfl | rfl | rfl | rfl : i = 0 ∨ i = 1 ∨ i = 2 ∨ i = 3 ∨ i = 4 ∨ i = 5 ∨ i = 6 ∨ i = 7 := by omega
  all_goals go_cell

set_option maxHeartbeats 400000 in
theorem spec_kw (s : ByteArray) (w : World) : Calls Tryd.prog 127 #[.string s] w fun e w' => e = .returned (.bool (kwB s.toList)) ∧ Gw w w' := by
  go_enter Tryd.func127, Tryd.ntmps127
  go_wp2_with fail
  go_loopw [3] (fun i wr => ∃ k : Nat, k ≤ 8 ∧ i = .int .i64 k ∧ (∀ j, j < k → (kwAt j).toList ≠ s.toList) ∧ Gw w wr) (fun i _ => 8 - (intOf i).toNat)
  case atStart => exact ⟨0, by omega, rfl, fun j hj => by omega, Gw.refl _⟩
  case round =>
    obtain ⟨k, hk, rfl, hno0, hg⟩ := hrel
    have hno := Lib.hid hno0
    clear hno0
    by_cases hlt : k < 8
    · by_cases hq : (kwAt k).toList = s.toList
      · have F := Lib.hid (show true = kwB s.toList from ((kwB_iff _).2 ⟨k, hlt, hq⟩).symm)
        have hq' : ((kwAt k).toList == s.toList) = true := by simpa using hq
        clear hq
        go_wp2_with (go_at_call 134; refine (kws _).mono ?_; rintro e w' ⟨rfl, hc0, hg0⟩; have hc := hc0 k hlt; clear hc0)
        go_ret
        exact ⟨ret_b F.out, by first | (exact (hg.trans (Gw.trans (by assumption) (by assumption))))⟩
      · have hq' : ((kwAt k).toList == s.toList) = false := by simpa using hq
        have hq2 := Lib.hid hq
        clear hq
        go_wp2_with (go_at_call 134; refine (kws _).mono ?_; rintro e w' ⟨rfl, hc0, hg0⟩; have hc := hc0 k hlt; clear hc0)
        go_roundw
        case rel => exact ⟨k + 1, by omega, by go_num, fun j hj => if h : j = k then h ▸ hq2.out else hno.out j (by omega), (hg.trans (Gw.trans (by assumption) (by assumption)))⟩
        case measure => simp [intOf]; omega
    · have F := Lib.hid (show false = kwB s.toList from by
        cases h : kwB s.toList with
        | false => rfl
        | true => obtain ⟨i, hi, he⟩ := (kwB_iff _).1 h; exact absurd he (hno.out i (by omega)))
      go_wp2_with (go_at_call 134; refine (kws _).mono ?_; rintro e w' ⟨rfl, hc0, hg0⟩; clear hc0)
      go_ret
      exact ⟨ret_b F.out, hg.trans (by assumption)⟩

end Go.Proofs.YtpafjhnamdeagaaDoor.Con
