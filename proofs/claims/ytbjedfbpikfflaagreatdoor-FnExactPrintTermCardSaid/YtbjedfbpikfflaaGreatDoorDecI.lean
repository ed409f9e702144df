/-
  Contract of the program's Decimal: it answers the decimal form; what was in memory stays as it was. No condition.
-/
import Derived.Test.YtbjedfbpikfflaaGreatDoorDec
import Derived.Test.YtbjedfbpikfflaaGreatDoorBld
namespace Go.Proofs.YtbjedfbpikfflaaGreatDoor.Con
open Go.RowKit

set_option maxHeartbeats 1000000 in
theorem writeDigits : ∀ (k m : Nat) (B b : Nat) (bs : List Value) (w : World), m ≤ k → m ≤ 18446744073709551615 → Lib.IsBuilder 52 5 B b bs w → bs.length ≤ 100 → B ≤ w.heap.size →
    Calls Tryz.prog 81 #[.pointer (some ⟨b, 0, none⟩), .int .u64 m] w fun e w' => e = .returned (.tuple #[]) ∧ (Lib.IsBuilder 52 5 B b (bs ++ Lib.byteCells (decN m)) w' ∧ Below B w w') := by
  intro k
  induction k with
  | zero =>
    intro m B b bs w hk hm hI hl hB
    obtain rfl : m = 0 := by omega
    go_enter Tryz.func81, Tryz.ntmps81
    go_wp2_with fail
    refine (writeRune B b bs 48 (by omega) (by omega) _ hI (by omega) hB).mono ?_
    rintro e w1 ⟨rfl, h1, h2⟩
    go_wp2_with fail
    go_end0
    exact ⟨rfl, by simpa [decN_small, Lib.byteCells] using h1, h2⟩
  | succ k ih =>
    intro m B b bs w hk hm hI hl hB
    have hr : m % 10 < 10 := Nat.mod_lt _ (by omega)
    by_cases h10 : m < 10
    · have F : Lib.byteCells (decN m) = [.int .u8 (48 + (m : Int))] := by rw [decN_small h10, cell_dig m h10]
      have e0 : ((m : Int) % 10) = m := by omega
      have HF := Lib.hid F
      clear F
      go_enter Tryz.func81, Tryz.ntmps81
      go_wp2_with fail
      refine (writeRune B b bs (48 + (m : Int)) (by omega) (by omega) _ hI (by omega) hB).mono ?_
      rintro e w1 ⟨rfl, h1, h2⟩
      go_wp2_with fail
      go_end0
      exact ⟨rfl, by rw [HF.out]; exact h1, h2⟩
    · have F : bs ++ Lib.byteCells (decN m) = bs ++ Lib.byteCells (decN (m / 10)) ++ [.int .u8 (48 + (m : Int) % 10)] := by
        rw [decN_big (by omega : 10 ≤ m), Lib.byteCells_append, cell_dig _ hr, List.append_assoc, show ((m % 10 : Nat) : Int) = (m : Int) % 10 from by omega]
      have HF := Lib.hid F
      clear F
      have hlen := decN_len (a := m / 10) (by omega)
      have IH := Lib.hid ih
      clear ih
      go_enter Tryz.func81, Tryz.ntmps81
      go_wp2_with fail
      rw [show ((m : Int) / 10) = ((m / 10 : Nat) : Int) from by omega]
      refine (IH.out (m / 10) B b bs _ (by omega) (by omega) hI hl hB).mono ?_
      rintro e w1 ⟨rfl, h1, h2⟩
      have hl1 : (bs ++ Lib.byteCells (decN (m / 10))).length ≤ 120 := by rw [List.length_append, Lib.byteCells_length]; omega
      have hB1 : B ≤ w1.heap.size := Nat.le_trans hB h2.size
      go_wp2_with fail
      refine (writeRune B b _ (48 + (m : Int) % 10) (by omega) (by omega) _ h1 (by omega) hB1).mono ?_
      rintro e w2 ⟨rfl, h3, h4⟩
      go_wp2_with fail
      go_end0
      exact ⟨rfl, by rw [HF.out]; exact h3, h2.trans h4⟩

theorem u64_neg (n : Int) (h : n < 0) (h2 : -9223372036854775808 ≤ n) : IntKind.u64.wrap (-(IntKind.u64.wrap n)) = (n.natAbs : Int) := by rw [IntKind.wrap_u64, IntKind.wrap_u64]; omega

set_option maxHeartbeats 1000000 in
theorem impl_decimal (n : Int) (h1 : -9223372036854775808 ≤ n) (h2 : n ≤ 9223372036854775807) (w : World) :
    Calls Tryz.prog 64 #[.int .i64 n] w fun e w' => e = .returned (.string ⟨(decV n).toArray⟩) ∧ Gw w w' := by
  have hI := Lib.fresh_isBuilder 52 5 w
  have hG : Below w.heap.size w (w.alloc (.cells #[.pointer none, .slice none 0 0] 52)) := (Below.refl _ _).alloc (Nat.le_refl _) _
  have ha : n.natAbs ≤ 18446744073709551615 := by omega
  by_cases hn : n < 0
  · have F := Lib.hid (show Lib.byteCells (decV n) = [] ++ [.int .u8 45] ++ Lib.byteCells (decN n.natAbs) from by unfold decV; rw [if_pos hn]; rfl)
    have hu := Lib.hid (u64_neg n hn h1)
    have hh := Lib.hid (And.intro h1 h2)
    clear h1 h2
    go_enter Tryz.func64, Tryz.ntmps64
    go_wp2_with fail
    refine (writeRune w.heap.size w.heap.size [] 45 (by omega) (by omega) _ hI (by simp) (by simp)).mono ?_
    rintro e w1 ⟨rfl, h3, h4⟩
    go_wp2_with fail
    rw [hu.out]
    refine (writeDigits _ n.natAbs w.heap.size w.heap.size _ _ (Nat.le_refl _) ha h3 (by simp) (by have := h4.size; simp at this; omega)).mono ?_
    rintro e w2 ⟨rfl, h5, h6⟩
    rw [← F.out] at h5
    go_wp2_with fail
    refine (Tryz.Builder_String_any w.heap.size w.heap.size (decV n) _ h5 (by have := h4.size; have := h6.size; simp at *; omega)).mono ?_
    rintro e w3 ⟨rfl, h7⟩
    go_wp2_with fail
    go_ret
    exact ⟨rfl, hG.trans (h4.trans (h6.trans h7))⟩
  · obtain ⟨m, rfl⟩ : ∃ m : Nat, n = m := ⟨n.toNat, by omega⟩
    have F := Lib.hid (show Lib.byteCells (decV m) = [] ++ Lib.byteCells (decN m) from by unfold decV; rw [if_neg hn]; rfl)
    have ha' : m ≤ 9223372036854775807 := by omega
    clear h1 h2 hn ha
    go_enter Tryz.func64, Tryz.ntmps64
    go_wp2_with fail
    refine (writeDigits _ m w.heap.size w.heap.size _ _ (Nat.le_refl _) (by omega) hI (by simp) (by simp)).mono ?_
    rintro e w2 ⟨rfl, h5, h6⟩
    rw [← F.out] at h5
    go_wp2_with fail
    refine (Tryz.Builder_String_any w.heap.size w.heap.size (decV m) _ h5 (by have := h6.size; simp at *; omega)).mono ?_
    rintro e w3 ⟨rfl, h7⟩
    go_wp2_with fail
    go_ret
    exact ⟨rfl, hG.trans (h6.trans h7)⟩

end Go.Proofs.YtbjedfbpikfflaaGreatDoor.Con
