/-
  Contract of the laws' markText: a text that depends on its number alone. Condition: the number is small.
-/
import Derived.Test.YtbbldkhlclfmkaaDec
import Derived.Test.YtbbldkhlclfmkaaTyTxt
namespace Go.Proofs.Ytbbldkhlclfmkaa.Con
open Go.RowKit
set_option linter.unusedVariables false

/-- The digits of a number, put before others. -/
def digs (k : Nat) : List UInt8 := (revN k).reverse
theorem digs_pos {k : Nat} (h : k ≠ 0) : digs k = digs (k / 10) ++ [UInt8.ofNat (48 + k % 10)] := by unfold digs; rw [revN_pos h, List.reverse_cons]
def mtx (k : Nat) : List UInt8 := 109 :: digs k

theorem conv_digit (j : Nat) (W : World) : (convert 165 9 (.slice (some ⟨W.heap.size, 0, none⟩) 1 1)).run Try.prog (W.alloc (.cells #[.int .u8 (48 + (j : Int) % 10)] 5)) = .ok (.string (str [UInt8.ofNat (48 + j % 10)])) (W.alloc (.cells #[.int .u8 (48 + (j : Int) % 10)] 5)) := by
  have hd : (UInt8.ofNat (48 + j % 10)).toNat = 48 + j % 10 := dig_toNat _ (by omega)
  refine run_convert_bytes_back (P := Try.prog) _ 165 9 5 ⟨W.heap.size, 0, none⟩ 1 [UInt8.ofNat (48 + j % 10)] Try.underlying165 Try.underlying5 Try.underlying9 (fun i hi => ?_)
  obtain rfl : i = 0 := by simpa using hi
  rw [show ((⟨W.heap.size, 0, none⟩ : Addr).add 0) = ⟨W.heap.size, 0, none⟩ from rfl]
  rw [cell_of_row _ _ 0 _ _ _ (heap_alloc_new W _)]
  simp only [List.getElem_cons_zero, hd]
  simp

set_option maxRecDepth 100000 in
theorem markText (k : Nat) (h1 : 1 ≤ k) (h2 : k ≤ 9000000) (w : World) : Calls Try.prog 87 #[.int .i64 k] w (StrGw (mtx k) w) := by
  go_enter Try.func87, Try.ntmps87
  go_wp2_with fail
  go_loopw [0, 3] (fun a s wr => ∃ (j : Nat) (l : List UInt8), a = .int .i64 j ∧ s = .string (str l) ∧ j ≤ 9000000 ∧ digs j ++ l = digs k ∧ l.length ≤ 20 ∧ Gw w wr) (fun a _ _ => (intOf a).toNat)
  case atStart => exact ⟨k, [], rfl, rfl, h2, by simp, by simp, Gw.refl _⟩
  case round =>
    obtain ⟨j, l, rfl, rfl, hj, hd, hl, hg⟩ := hrel
    have HD := Lib.hid hd
    clear hd
    by_cases h0 : 0 < j
    · have hcv : ∀ W : World, (convert 165 9 (.slice (some ⟨W.heap.size, 0, none⟩) 1 1)).run Try.prog (W.alloc (.cells #[.int .u8 (48 + (j : Int) % 10)] 5)) = .ok (.string (str [UInt8.ofNat (48 + j % 10)])) (W.alloc (.cells #[.int .u8 (48 + (j : Int) % 10)] 5)) := fun W => conv_digit j W
      have hdj := digs_pos (k := j) (by omega)
      obtain ⟨d, hd⟩ : ∃ d, d = UInt8.ofNat (48 + j % 10) := ⟨_, rfl⟩
      rw [← hd] at hcv hdj
      have hnew : digs (j / 10) ++ ([d] ++ l) = digs k := by rw [← List.append_assoc, ← hdj]; exact HD.out
      have hlen : ([d] ++ l).length ≤ 20 := by
        have e1 := congrArg List.length hnew
        have e2 : (digs k).length ≤ 20 := by unfold digs; rw [List.length_reverse]; exact revN_len20 (by omega)
        simp only [List.length_append] at e1 ⊢
        omega
      have HNEW := Lib.hid hnew
      clear hd hdj hnew
      go_wp2_with fail
      refine ⟨⟨j / 10, [d] ++ l, by go_num, by rw [str_add], by omega, HNEW.out, hlen, hg.alloc _⟩, ?_⟩
      simp [intOf]; omega
    · obtain rfl : j = 0 := by omega
      have hdn : digs k = l := by have := HD.out; simpa [digs, revN_zero] using this.symm
      have HN := Lib.hid hdn
      clear hdn
      go_wp2_with fail
      go_ret
      exact ⟨ret_str (by rw [show mtx k = [109] ++ l from by unfold mtx; rw [HN.out]; rfl, ← str_add]), hg⟩

end Go.Proofs.Ytbbldkhlclfmkaa.Con
