/-
  Contracts of the two functions IsKeyword: both say whether a text is one of the eight keywords; what was in memory stays as it was. No condition but the one on a string's size that every row has.
  Contracts of the small functions on letters and digits (the model's on bytes, the program's on runes). No condition.
  Contracts of the functions IsName, IsUpper and IsLower (the model's and the program's): the answers are 'nameB s', 'upperB s', 'lowerB s'; what was in memory stays as it was. Condition: the string's size is at most 9223372036854775807, as every string's is.
  Contracts of the functions IsUpper and IsLower (the model's and the program's): the answers are 'upperB s', 'lowerB s'; what was in memory stays as it was. Condition: the string's size is at most 9223372036854775807, as every string's is.
-/
import Derived.Test.YtbbldkhlclfmkaaBase
import Derived.WalkSpells
import Derived.Deep.QuietTactic
import Derived.BigQuiet
import Derived.Lib.Hide
import Derived.Laws.EntriesVeiled
import Derived.PlainAid
namespace Go.Proofs.Ytbbldkhlclfmkaa.Con
open Go.RowKit

/-- Is the text a keyword? -/
def kwB (l : List UInt8) : Bool := l == [100, 97, 116, 97] || l == [100, 101, 102] || l == [108, 101, 116] || l == [105, 110] || l == [109, 97, 116, 99, 104] || l == [105, 102] || l == [116, 104, 101, 110] || l == [101, 108, 115, 101]

theorem impl_kw (s : ByteArray) (w : World) : Calls Try.prog 136 #[.string s] w fun e w' => e = .returned (.bool (kwB s.toList)) ∧ w = w' := by
  go_enter Try.func136, Try.ntmps136
  go_wp2
  all_goals first
    | (exfalso; simp_all; done)
    | (go_ret; exact ⟨ret_b (by unfold kwB; simp [*]), rfl⟩)

/-- The keyword at a place of the list. -/
def kwAt (i : Nat) : ByteArray := match i with | 0 => ⟨#[100, 97, 116, 97]⟩ | 1 => ⟨#[100, 101, 102]⟩ | 2 => ⟨#[108, 101, 116]⟩ | 3 => ⟨#[105, 110]⟩ | 4 => ⟨#[109, 97, 116, 99, 104]⟩ | 5 => ⟨#[105, 102]⟩ | 6 => ⟨#[116, 104, 101, 110]⟩ | _ => ⟨#[101, 108, 115, 101]⟩

theorem kwB_iff (l : List UInt8) : kwB l = true ↔ ∃ i, i < 8 ∧ (kwAt i).toList = l := by
  have e0 : (kwAt 0).toList = [100, 97, 116, 97] := by decide +kernel
  have e1 : (kwAt 1).toList = [100, 101, 102] := by decide +kernel
  have e2 : (kwAt 2).toList = [108, 101, 116] := by decide +kernel
  have e3 : (kwAt 3).toList = [105, 110] := by decide +kernel
  have e4 : (kwAt 4).toList = [109, 97, 116, 99, 104] := by decide +kernel
  have e5 : (kwAt 5).toList = [105, 102] := by decide +kernel
  have e6 : (kwAt 6).toList = [116, 104, 101, 110] := by decide +kernel
  have e7 : (kwAt 7).toList = [101, 108, 115, 101] := by decide +kernel
  unfold kwB
  simp only [Bool.or_eq_true, beq_iff_eq]
  constructor
  · rintro (((((((h | h) | h) | h) | h) | h) | h) | h)
    · exact ⟨0, by omega, by rw [e0, h]⟩
    · exact ⟨1, by omega, by rw [e1, h]⟩
    · exact ⟨2, by omega, by rw [e2, h]⟩
    · exact ⟨3, by omega, by rw [e3, h]⟩
    · exact ⟨4, by omega, by rw [e4, h]⟩
    · exact ⟨5, by omega, by rw [e5, h]⟩
    · exact ⟨6, by omega, by rw [e6, h]⟩
    · exact ⟨7, by omega, by rw [e7, h]⟩
  · rintro ⟨i, hi, rfl⟩
    obtain rfl | rfl | rfl | rfl | rfl | rfl | rfl | rfl : i = 0 ∨ i = 1 ∨ i = 2 ∨ i = 3 ∨ i = 4 ∨ i = 5 ∨ i = 6 ∨ i = 7 := by omega
    · simp [e0]
    · simp [e1]
    · simp [e2]
    · simp [e3]
    · simp [e4]
    · simp [e5]
    · simp [e6]
    · simp [e7]

theorem kws (w : World) : Calls Try.prog 135 #[] w fun e w' =>
    e = .returned (.slice (some ⟨w.heap.size, 0, none⟩) 8 8) ∧ (∀ i, i < 8 → w'.cell? ⟨w.heap.size, i, none⟩ = some (.string (kwAt i))) ∧ Gw w w' := by
  have K : ∀ P : Ending → World → Prop, P (.returned (.slice (some ⟨w.heap.size, 0, none⟩) 8 8)) (w.alloc (.cells #[.string (kwAt 0), .string (kwAt 1), .string (kwAt 2), .string (kwAt 3), .string (kwAt 4), .string (kwAt 5), .string (kwAt 6), .string (kwAt 7)] 9)) →
      Calls Try.prog 135 #[] w P := by
    intro P h
    unfold kwAt at h
    go_enter Try.func135, Try.ntmps135
    go_wp2
    exact h
  refine K _ ⟨rfl, fun i hi => ?_, (Gw.refl _).alloc _⟩
  obtain rfl | rfl | rfl | rfl | rfl | rfl | rfl | rfl : i = 0 ∨ i = 1 ∨ i = 2 ∨ i = 3 ∨ i = 4 ∨ i = 5 ∨ i = 6 ∨ i = 7 := by omega
  all_goals go_cell

set_option maxHeartbeats 400000 in
theorem spec_kw (s : ByteArray) (w : World) : Calls Try.prog 131 #[.string s] w fun e w' => e = .returned (.bool (kwB s.toList)) ∧ Gw w w' := by
  go_enter Try.func131, Try.ntmps131
  go_wp2_with fail
  go_loopw [3] (fun i wr => ∃ k : Nat, k ≤ 8 ∧ i = .int .i64 k ∧ (∀ j, j < k → (kwAt j).toList ≠ s.toList) ∧ Gw w wr) (fun i _ => 8 - (intOf i).toNat)
  case atStart => exact ⟨0, by omega, rfl, fun j hj => by omega, Gw.refl _⟩
  case round =>
    obtain ⟨k, hk, rfl, hno0, hg⟩ := hrel
    have hno := Lib.hid hno0
    clear hno0
    by_cases hlt : k < 8
    · by_cases hq : (kwAt k).toList = s.toList
      · have F := Lib.hid (show true = kwB s.toList from ((kwB_iff _).2 ⟨k, hlt, hq⟩).symm)
        have hq' : ((kwAt k).toList == s.toList) = true := by simpa using hq
        clear hq
        go_wp2_with (go_at_call 135; refine (kws _).mono ?_; rintro e w' ⟨rfl, hc0, hg0⟩; have hc := hc0 k hlt; clear hc0)
        go_ret
        exact ⟨ret_b F.out, by first | (exact (hg.trans (Gw.trans (by assumption) (by assumption))))⟩
      · have hq' : ((kwAt k).toList == s.toList) = false := by simpa using hq
        have hq2 := Lib.hid hq
        clear hq
        go_wp2_with (go_at_call 135; refine (kws _).mono ?_; rintro e w' ⟨rfl, hc0, hg0⟩; have hc := hc0 k hlt; clear hc0)
        go_roundw
        case rel => exact ⟨k + 1, by omega, by go_num, fun j hj => if h : j = k then h ▸ hq2.out else hno.out j (by omega), (hg.trans (Gw.trans (by assumption) (by assumption)))⟩
        case measure => simp [intOf]; omega
    · have F := Lib.hid (show false = kwB s.toList from by
        cases h : kwB s.toList with
        | false => rfl
        | true => obtain ⟨i, hi, he⟩ := (kwB_iff _).1 h; exact absurd he (hno.out i (by omega)))
      go_wp2_with (go_at_call 135; refine (kws _).mono ?_; rintro e w' ⟨rfl, hc0, hg0⟩; clear hc0)
      go_ret
      exact ⟨ret_b F.out, hg.trans (by assumption)⟩

end Go.Proofs.Ytbbldkhlclfmkaa.Con

namespace Go.Proofs.Ytbbldkhlclfmkaa.Con
open Go.RowKit

def upB (c : Int) : Bool := decide (65 ≤ c ∧ c ≤ 90)
def loB (c : Int) : Bool := decide (97 ≤ c ∧ c ≤ 122)
def digB (c : Int) : Bool := decide (48 ≤ c ∧ c ≤ 57)
def letB (c : Int) : Bool := upB c || loB c

theorem spec_letter (c : Int) (h0 : 0 ≤ c) (h1 : c ≤ 255) (w : World) : Calls Try.prog 130 #[.int .u8 c] w fun e w' => e = .returned (.bool (letB c)) ∧ w = w' := by
  by_cases a1 : 97 ≤ c <;> by_cases a2 : c ≤ 122 <;> by_cases b1 : 65 ≤ c <;> by_cases b2 : c ≤ 90 <;> first
    | (exfalso; omega)
    | (go_enter Try.func130, Try.ntmps130
       go_wp2
       go_ret
       exact ⟨ret_b (by unfold letB upB loB; simp; omega), rfl⟩)

theorem spec_digit (c : Int) (h0 : 0 ≤ c) (h1 : c ≤ 255) (w : World) : Calls Try.prog 132 #[.int .u8 c] w fun e w' => e = .returned (.bool (digB c)) ∧ w = w' := by
  by_cases a1 : 48 ≤ c <;> by_cases a2 : c ≤ 57 <;> first
    | (exfalso; omega)
    | (go_enter Try.func132, Try.ntmps132
       go_wp2
       go_ret
       exact ⟨ret_b (by unfold digB; simp; omega), rfl⟩)

theorem impl_up (c : Int) (w : World) : Calls Try.prog 134 #[.int .i32 c] w fun e w' => e = .returned (.bool (upB c)) ∧ w = w' := by
  by_cases a1 : 65 ≤ c <;> by_cases a2 : c ≤ 90 <;> first
    | (exfalso; omega)
    | (go_enter Try.func134, Try.ntmps134
       go_wp2
       go_ret
       exact ⟨ret_b (by unfold upB; simp; omega), rfl⟩)

theorem impl_lo (c : Int) (w : World) : Calls Try.prog 139 #[.int .i32 c] w fun e w' => e = .returned (.bool (loB c)) ∧ w = w' := by
  by_cases a1 : 97 ≤ c <;> by_cases a2 : c ≤ 122 <;> first
    | (exfalso; omega)
    | (go_enter Try.func139, Try.ntmps139
       go_wp2
       go_ret
       exact ⟨ret_b (by unfold loB; simp; omega), rfl⟩)

theorem impl_dig (c : Int) (w : World) : Calls Try.prog 138 #[.int .i32 c] w fun e w' => e = .returned (.bool (digB c)) ∧ w = w' := by
  by_cases a1 : 48 ≤ c <;> by_cases a2 : c ≤ 57 <;> first
    | (exfalso; omega)
    | (go_enter Try.func138, Try.ntmps138
       go_wp2
       go_ret
       exact ⟨ret_b (by unfold digB; simp; omega), rfl⟩)

theorem impl_letter (c : Int) (w : World) : Calls Try.prog 137 #[.int .i32 c] w fun e w' => e = .returned (.bool (letB c)) ∧ w = w' := by
  cases hu : upB c
  · have F := Lib.hid (show loB c = letB c from by unfold letB; rw [hu]; rfl)
    go_enter Try.func137, Try.ntmps137
    go_wp2_with (first | (go_at_call 134; refine (impl_up _ _).mono ?_; rintro e w' ⟨rfl, rfl⟩) | (go_at_call 139; refine (impl_lo _ _).mono ?_; rintro e w' ⟨rfl, rfl⟩))
    go_ret
    exact ⟨ret_b F.out, rfl⟩
  · have F := Lib.hid (show true = letB c from by unfold letB; rw [hu]; rfl)
    go_enter Try.func137, Try.ntmps137
    go_wp2_with (first | (go_at_call 134; refine (impl_up _ _).mono ?_; rintro e w' ⟨rfl, rfl⟩) | (go_at_call 139; refine (impl_lo _ _).mono ?_; rintro e w' ⟨rfl, rfl⟩))
    go_ret
    exact ⟨ret_b F.out, rfl⟩

end Go.Proofs.Ytbbldkhlclfmkaa.Con

namespace Go.Proofs.Ytbbldkhlclfmkaa.Con
open Go.RowKit Go.PlainAid

def ldB (c : Int) : Bool := letB c || digB c
/-- Is the text a name? -/
def nameB (s : ByteArray) : Bool := decide (1 ≤ s.size) && decide (s.size ≤ 12) && letB (bt s 0) && !kwB s.toList && (List.range s.size).all fun j => ldB (bt s j)
def upperB (s : ByteArray) : Bool := nameB s && upB (bt s 0)
def lowerB (s : ByteArray) : Bool := nameB s && loB (bt s 0)

theorem name_size0 (s : ByteArray) (h : s.size < 1) : nameB s = false := by unfold nameB; simp [show ¬ 1 ≤ s.size by omega]
theorem name_size13 (s : ByteArray) (h : 12 < s.size) : nameB s = false := by unfold nameB; simp [show ¬ s.size ≤ 12 by omega]
theorem name_let (s : ByteArray) (h : letB (bt s 0) = false) : nameB s = false := by unfold nameB; simp [h]
theorem name_kw (s : ByteArray) (h : kwB s.toList = true) : nameB s = false := by unfold nameB; simp [h]
theorem name_at (s : ByteArray) (k : Nat) (hk : k < s.size) (h : ldB (bt s k) = false) : nameB s = false := by
  cases hn : nameB s with
  | false => rfl
  | true =>
    unfold nameB at hn
    simp only [Bool.and_eq_true, List.all_eq_true, List.mem_range] at hn
    rw [hn.2 k hk] at h
    exact absurd h (by decide)
theorem name_yes (s : ByteArray) (h1 : 1 ≤ s.size) (h2 : s.size ≤ 12) (h3 : letB (bt s 0) = true) (h4 : kwB s.toList = false) (h5 : ∀ j, j < s.size → ldB (bt s j) = true) : nameB s = true := by
  unfold nameB
  simp only [Bool.and_eq_true, List.all_eq_true, List.mem_range, decide_eq_true_eq]
  exact ⟨⟨⟨⟨h1, h2⟩, h3⟩, by rw [h4]; rfl⟩, h5⟩

set_option maxHeartbeats 400000 in
theorem spec_name (s : ByteArray) (hs : s.size ≤ 9223372036854775807) (w : World) : Calls Try.prog 122 #[.string s] w fun e w' => e = .returned (.bool (nameB s)) ∧ Gw w w' := by
  have hb := get_bt s
  have b0 := bt_nonneg s
  have b1 := bt_le s
  by_cases z : s.size < 1
  · have F := Lib.hid (name_size0 s z).symm
    go_enter Try.func122, Try.ntmps122
    go_wp2_with fail
    go_ret
    exact ⟨ret_b F.out, Gw.refl _⟩
  by_cases z2 : 12 < s.size
  · have F := Lib.hid (name_size13 s z2).symm
    go_enter Try.func122, Try.ntmps122
    go_wp2_with fail
    go_ret
    exact ⟨ret_b F.out, Gw.refl _⟩
  have b00 := b0 0
  have b10 := b1 0
  cases hl : letB (bt s 0) with
  | false =>
    have F := Lib.hid (name_let s hl).symm
    go_enter Try.func122, Try.ntmps122
    go_wp2_with (go_at_call 130; refine (spec_letter _ b00 b10 _).mono ?_; rintro e w' ⟨rfl, rfl⟩)
    go_ret
    exact ⟨ret_b F.out, Gw.refl _⟩
  | true =>
    cases hk : kwB s.toList with
    | true =>
      have F := Lib.hid (name_kw s hk).symm
      go_enter Try.func122, Try.ntmps122
      go_wp2_with (first | (go_at_call 130; refine (spec_letter _ b00 b10 _).mono ?_; rintro e w' ⟨rfl, rfl⟩) | (go_at_call 131; refine (spec_kw _ _).mono ?_; rintro e w' ⟨rfl, hg⟩))
      go_ret
      exact ⟨ret_b F.out, by assumption⟩
    | false =>
      have HL := Lib.hid hl
      have HK := Lib.hid hk
      go_enter Try.func122, Try.ntmps122
      go_wp2_with (first | (go_at_call 130; refine (spec_letter _ b00 b10 _).mono ?_; rintro e w' ⟨rfl, rfl⟩) | (go_at_call 131; refine (spec_kw _ _).mono ?_; rintro e w' ⟨rfl, hg⟩))
      clear hl hk
      go_loop [3] (fun i => ∃ k : Nat, k ≤ s.size ∧ i = .int .i64 k ∧ ∀ j, j < k → ldB (bt s j) = true) (fun i => s.size - (intOf i).toNat)
      case atStart => exact ⟨0, by omega, rfl, fun j hj => by omega⟩
      case round =>
        obtain ⟨k, hkl, rfl, hall0⟩ := hrel
        have hall := Lib.hid hall0
        clear hall0
        by_cases hlt : k < s.size
        · have c0 := b0 k
          have c1 := b1 k
          cases hlk : letB (bt s k) with
          | true =>
            go_wp2_with (go_at_call 130; refine (spec_letter _ c0 c1 _).mono ?_; rintro e w' ⟨rfl, rfl⟩)
            go_round
            case rel => exact ⟨k + 1, by omega, by go_num, fun j hj => if h : j = k then (by subst h; unfold ldB; rw [hlk]; rfl) else hall.out j (by omega)⟩
            case measure => simp [intOf]; omega
          | false =>
            cases hdk : digB (bt s k) with
            | true =>
              go_wp2_with (first | (go_at_call 130; refine (spec_letter _ c0 c1 _).mono ?_; rintro e w' ⟨rfl, rfl⟩) | (go_at_call 132; refine (spec_digit _ c0 c1 _).mono ?_; rintro e w' ⟨rfl, rfl⟩))
              go_round
              case rel => exact ⟨k + 1, by omega, by go_num, fun j hj => if h : j = k then (by subst h; unfold ldB; rw [hlk, hdk]; rfl) else hall.out j (by omega)⟩
              case measure => simp [intOf]; omega
            | false =>
              have F := Lib.hid (name_at s k hlt (by unfold ldB; rw [hlk, hdk]; rfl)).symm
              go_wp2_with (first | (go_at_call 130; refine (spec_letter _ c0 c1 _).mono ?_; rintro e w' ⟨rfl, rfl⟩) | (go_at_call 132; refine (spec_digit _ c0 c1 _).mono ?_; rintro e w' ⟨rfl, rfl⟩))
              go_ret
              exact ⟨ret_b F.out, by assumption⟩
        · have F := Lib.hid (name_yes s (by omega) (by omega) HL.out HK.out (fun j hj => hall.out j (by omega))).symm
          go_wp2_with fail
          go_ret
          exact ⟨ret_b F.out, by assumption⟩

theorem empty_yes (s : ByteArray) (h : s.size < 1) : s.toList.isEmpty = true := by
  rw [ByteArray.toList_eq, List.isEmpty_iff_length_eq_zero, Array.length_toList]
  show s.size = 0
  omega
theorem empty_no (s : ByteArray) (h : ¬ s.size < 1) : s.toList.isEmpty = false := by
  cases he : s.toList.isEmpty with
  | false => rfl
  | true =>
    rw [ByteArray.toList_eq, List.isEmpty_iff_length_eq_zero, Array.length_toList] at he
    have : s.size = 0 := he
    omega

theorem let_high (c : Int) (h : 128 ≤ c) : letB c = false := by unfold letB upB loB; simp; omega
theorem dig_high (c : Int) (h : 128 ≤ c) : digB c = false := by unfold digB; simp; omega

set_option maxHeartbeats 400000 in
theorem impl_name (s : ByteArray) (hs : s.size ≤ 9223372036854775807) (w : World) : Calls Try.prog 133 #[.string s] w fun e w' => e = .returned (.bool (nameB s)) ∧ Gw w w' := by
  by_cases z : s.size < 1
  · have F := Lib.hid (name_size0 s z).symm
    have he := empty_yes s z
    go_enter Try.func133, Try.ntmps133
    go_wp2_with fail
    go_ret
    exact ⟨ret_b F.out, Gw.refl _⟩
  have he := empty_no s z
  by_cases z2 : 12 < s.size
  · have F := Lib.hid (name_size13 s z2).symm
    go_enter Try.func133, Try.ntmps133
    go_wp2_with fail
    go_ret
    exact ⟨ret_b F.out, Gw.refl _⟩
  cases hk : kwB s.toList with
  | true =>
    have F := Lib.hid (name_kw s hk).symm
    go_enter Try.func133, Try.ntmps133
    go_wp2_with (go_at_call 136; refine (impl_kw _ _).mono ?_; rintro e w' ⟨rfl, rfl⟩)
    go_ret
    exact ⟨ret_b F.out, Gw.refl _⟩
  | false =>
    have HK := Lib.hid hk
    go_enter Try.func133, Try.ntmps133
    go_wp2_with (go_at_call 136; refine (impl_kw _ _).mono ?_; rintro e w' ⟨rfl, rfl⟩)
    clear hk
    go_loopw [3] (fun _ wr => ∃ p : Nat, p ≤ s.size ∧ wr = w.iter s p ∧ (∀ j, j < p → ldB (bt s j) = true) ∧ (p = 0 ∨ letB (bt s 0) = true)) (fun _ wr => s.size - wr.iterPos w.heap.size)
    case atStart => exact ⟨0, by omega, rfl, fun j hj => by omega, Or.inl rfl⟩
    case round =>
      obtain ⟨p, hp, rfl, hall0, hf0⟩ := hrel
      have hall := Lib.hid hall0
      have hf := Lib.hid hf0
      clear hall0 hf0
      by_cases hlt : p < s.size
      · by_cases ha : (s[p]'hlt).toNat < 128
        · have hnx : ∀ ty, (Instr.next (.pointer (some ⟨w.heap.size, 0, none⟩)) true ty).run Try.prog (w.iter s p) = .ok (.tuple #[.bool true, .int .i64 p, .int .i32 (bt s p)]) (w.iter s (p + 1)) := fun ty => by
            rw [← get_bt s p hlt]; exact run_next_ascii w s p ty hlt ha
          clear ha
          cases hlk : letB (bt s p) with
          | true =>
            go_wp2_with (go_at_call 137; refine (impl_letter _ _).mono ?_; rintro e w' ⟨rfl, rfl⟩)
            go_roundw
            case rel => exact ⟨p + 1, by omega, rfl, fun j hj => if h : j = p then (by subst h; unfold ldB; rw [hlk]; rfl) else hall.out j (by omega), Or.inr (hf.out.elim (fun h => by subst h; exact hlk) id)⟩
            case measure => simp; omega
          | false =>
            by_cases hp0 : p = 0
            · subst hp0
              have F := Lib.hid (name_let s hlk).symm
              go_wp2_with (go_at_call 137; refine (impl_letter _ _).mono ?_; rintro e w' ⟨rfl, rfl⟩)
              go_ret
              exact ⟨ret_b F.out, (Gw.refl _).iter _ _⟩
            · have hp1 : ((p : Int) == 0) = false := by simpa using hp0
              cases hdk : digB (bt s p) with
              | true =>
                go_wp2_with (first | (go_at_call 137; refine (impl_letter _ _).mono ?_; rintro e w' ⟨rfl, rfl⟩) | (go_at_call 138; refine (impl_dig _ _).mono ?_; rintro e w' ⟨rfl, rfl⟩))
                go_roundw
                case rel => exact ⟨p + 1, by omega, rfl, fun j hj => if h : j = p then (by subst h; unfold ldB; rw [hlk, hdk]; rfl) else hall.out j (by omega), Or.inr (hf.out.elim (fun h => absurd h hp0) id)⟩
                case measure => simp; omega
              | false =>
                have F := Lib.hid (name_at s p hlt (by unfold ldB; rw [hlk, hdk]; rfl)).symm
                go_wp2_with (first | (go_at_call 137; refine (impl_letter _ _).mono ?_; rintro e w' ⟨rfl, rfl⟩) | (go_at_call 138; refine (impl_dig _ _).mono ?_; rintro e w' ⟨rfl, rfl⟩))
                go_ret
                exact ⟨ret_b F.out, (Gw.refl _).iter _ _⟩
        · have hd := (decode_high s p hlt (by omega)).1
          have hbt : 128 ≤ bt s p := by rw [← get_bt s p hlt]; omega
          have F := Lib.hid (name_at s p hlt (by unfold ldB; rw [let_high _ hbt, dig_high _ hbt]; rfl)).symm
          have hnx : ∀ ty, (Instr.next (.pointer (some ⟨w.heap.size, 0, none⟩)) true ty).run Try.prog (w.iter s p) = _ := fun ty => run_next_any w s p ty hlt
          generalize (Utf8.decode s p).1 = c at hd hnx
          generalize (Utf8.decode s p).2 = n at hnx
          have l1 : letB (c : Int) = false := let_high _ (by omega)
          have d1 : digB (c : Int) = false := dig_high _ (by omega)
          clear ha hbt
          by_cases hp0 : p = 0
          · subst hp0
            go_wp2_with (first | (go_at_call 137; refine (impl_letter _ _).mono ?_; rintro e w' ⟨rfl, rfl⟩) | (go_at_call 138; refine (impl_dig _ _).mono ?_; rintro e w' ⟨rfl, rfl⟩))
            go_ret
            exact ⟨ret_b F.out, (Gw.refl _).iter _ _⟩
          · have hp1 : ((p : Int) == 0) = false := by simpa using hp0
            go_wp2_with (first | (go_at_call 137; refine (impl_letter _ _).mono ?_; rintro e w' ⟨rfl, rfl⟩) | (go_at_call 138; refine (impl_dig _ _).mono ?_; rintro e w' ⟨rfl, rfl⟩))
            go_ret
            exact ⟨ret_b F.out, (Gw.refl _).iter _ _⟩
      · have hnx : ∀ ty, (Instr.next (.pointer (some ⟨w.heap.size, 0, none⟩)) true ty).run Try.prog (w.iter s p) = _ := fun ty => run_next_end w s p ty hlt
        have F := Lib.hid (name_yes s (by omega) (by omega) (hf.out.elim (fun h => by omega) id) HK.out (fun j hj => hall.out j (by omega))).symm
        go_wp2_with fail
        go_ret
        exact ⟨ret_b F.out, (Gw.refl _).iter _ _⟩

end Go.Proofs.Ytbbldkhlclfmkaa.Con

namespace Go.Proofs.Ytbbldkhlclfmkaa.Con
open Go.RowKit Go.PlainAid

theorem name_out (s : ByteArray) (h : nameB s = true) : 1 ≤ s.size ∧ s.size ≤ 12 ∧ letB (bt s 0) = true ∧ kwB s.toList = false := by
  unfold nameB at h
  simp only [Bool.and_eq_true, decide_eq_true_eq, Bool.not_eq_true'] at h
  exact ⟨h.1.1.1.1, h.1.1.1.2, h.1.1.2, h.1.2⟩
theorem up_iff (c : Int) (h : letB c = true) : upB c = decide (c ≤ 90) := by
  unfold letB upB loB at h
  unfold upB
  simp at h ⊢
  omega
theorem lo_iff (c : Int) (h : letB c = true) : loB c = decide (97 ≤ c) := by
  unfold letB upB loB at h
  unfold loB
  simp at h ⊢
  omega

theorem spec_upper (s : ByteArray) (hs : s.size ≤ 9223372036854775807) (w : World) : Calls Try.prog 107 #[.string s] w fun e w' => e = .returned (.bool (upperB s)) ∧ Gw w w' := by
  have hb := get_bt s
  cases hn : nameB s with
  | false =>
    have F := Lib.hid (show false = upperB s from by unfold upperB; rw [hn]; rfl)
    go_enter Try.func107, Try.ntmps107
    go_wp2_with (go_at_call 122; refine (spec_name _ hs _).mono ?_; rintro e w' ⟨rfl, hg⟩)
    go_ret
    exact ⟨ret_b F.out, by assumption⟩
  | true =>
    obtain ⟨o1, o2, o3, _⟩ := name_out s hn
    have hq := up_iff _ o3
    have c0 := bt_nonneg s 0
    have c1 := bt_le s 0
    by_cases ht : bt s 0 ≤ 90
    · have F := Lib.hid (show true = upperB s from by unfold upperB; rw [hn, hq]; simp [ht])
      clear hq o3
      go_enter Try.func107, Try.ntmps107
      go_wp2_with (go_at_call 122; refine (spec_name _ hs _).mono ?_; rintro e w' ⟨rfl, hg⟩)
      go_ret
      exact ⟨ret_b F.out, by assumption⟩
    · have F := Lib.hid (show decide (bt s 0 ≤ 90) = upperB s from by unfold upperB; rw [hn, hq]; rfl)
      clear hq o3
      go_enter Try.func107, Try.ntmps107
      go_wp2_with (go_at_call 122; refine (spec_name _ hs _).mono ?_; rintro e w' ⟨rfl, hg⟩)
      go_ret
      exact ⟨ret_b F.out, by assumption⟩

theorem impl_upper (s : ByteArray) (hs : s.size ≤ 9223372036854775807) (w : World) : Calls Try.prog 123 #[.string s] w fun e w' => e = .returned (.bool (upperB s)) ∧ Gw w w' := by
  have hb := get_bt s
  cases hn : nameB s with
  | false =>
    have F := Lib.hid (show false = upperB s from by unfold upperB; rw [hn]; rfl)
    go_enter Try.func123, Try.ntmps123
    go_wp2_with (first | (go_at_call 133; refine (impl_name _ hs _).mono ?_; rintro e w' ⟨rfl, hg⟩) | (go_at_call 134; refine (impl_up _ _).mono ?_; rintro e w' ⟨rfl, rfl⟩))
    go_ret
    exact ⟨ret_b F.out, by assumption⟩
  | true =>
    obtain ⟨o1, o2, o3, _⟩ := name_out s hn
    have c0 := bt_nonneg s 0
    have c1 := bt_le s 0
    have F := Lib.hid (show upB (bt s 0) = upperB s from by unfold upperB; rw [hn]; rfl)
    clear o3
    go_enter Try.func123, Try.ntmps123
    go_wp2_with (first | (go_at_call 133; refine (impl_name _ hs _).mono ?_; rintro e w' ⟨rfl, hg⟩) | (go_at_call 134; refine (impl_up _ _).mono ?_; rintro e w' ⟨rfl, rfl⟩))
    go_ret
    exact ⟨ret_b F.out, by assumption⟩

end Go.Proofs.Ytbbldkhlclfmkaa.Con
