/-
  The laws' own functions on rows of texts: szStringS, toStringS, eqStringS, markStringS, heldStringS. No condition but that the rows lie in memory and are not too large.
-/
import Derived.Test.YtbbldkhlclfmkaaTm
import Derived.Test.YtbbldkhlclfmkaaTyEq
import Derived.Test.YtbbldkhlclfmkaaTyTo
import Derived.Test.YtbbldkhlclfmkaaTySz
import Derived.Outline
import Derived.LoopTactic
import Derived.Lib.Hide
import Derived.BigQuiet
import Derived.Laws.MakeOwn
namespace Go.Proofs.Ytbbldkhlclfmkaa.Con
open Go.RowKit
set_option linter.unusedVariables false

theorem ssz_take (ns : List ByteArray) (j : Nat) (h : j < ns.length) : ssz (ns.take (j + 1)) = ssz (ns.take j) + 1 + ns[j].size := by
  have := sm_take (fun s : ByteArray => s.size) ns j h
  exact this
theorem ssz_rest (ns : List ByteArray) (j : Nat) (h : j < ns.length) : ssz (ns.take (j + 1)) + (ns.length - (j + 1)) ≤ ssz ns := sm_rest (fun s : ByteArray => s.size) ns j h
theorem ssz_ge (ns : List ByteArray) : ns.length ≤ ssz ns := sm_ge (fun s : ByteArray => s.size) ns
theorem ssz_take_le (ns : List ByteArray) (j : Nat) : ssz (ns.take j) ≤ ssz ns := by
  unfold ssz
  induction ns generalizing j with
  | nil => simp
  | cons s ss ih =>
    cases j with
    | zero => simp
    | succ j => simp only [List.take_succ_cons, List.map_cons, List.sum_cons]; have := ih j; omega

theorem strRow_get {w : World} {ns : List ByteArray} {b o : Nat} (h : gRow 1 sE sOk w ns b o) (i : Nat) (hi : i < ns.length) : w.cell? ⟨b, o + i, none⟩ = some (.string ns[i]) ∧ ns[i].size ≤ maxLen := by
  obtain ⟨h1, h2⟩ := h i hi
  have := h1 0 _ rfl
  rw [Nat.mul_one, Nat.add_zero] at this
  exact ⟨this, h2⟩
theorem strSl.grow {w w' : World} {a : Option Addr} {cap : Nat} {ns : List ByteArray} (h : strSl w a cap ns) (g : Gw w w') : strSl w' a cap ns := gSl.grow sLen sGr h g

theorem laws_szStrS (ns : List ByteArray) (w : World) (a : Option Addr) (cap : Nat) (left : Int) (h : strSl w a cap ns) (h0 : 0 ≤ left) (h1 : left ≤ 1048576) :
    Calls Try.prog 48 #[.slice a ns.length cap, .int .i64 left] w fun e w' => e = .returned (.int .i64 (szR left (ssz ns))) ∧ Gw w w' := by
  obtain ⟨hlc, hcap, hrow⟩ := h
  have hl : ns.length ≤ 9223372036854775807 := Nat.le_trans hlc hcap
  clear hlc hcap
  by_cases hsm : left < ns.length
  · have := ssz_ge ns
    have hsm2 : left - ns.length < 0 := by omega
    go_enter Try.func48, Try.ntmps48
    go_wp2_with fail
    go_ret
    exact ⟨ret_int (by unfold szR; rw [if_neg (by omega)]), Gw.refl _⟩
  · have hsm2 : 0 ≤ left - ns.length := by omega
    have hsm3 : (ns.length : Int) ≤ left := by omega
    go_enter Try.func48, Try.ntmps48
    go_wp2_with fail
    clear hsm2 hsm3
    go_loopw [1, 5] (fun l i wr => ∃ j : Nat, j ≤ ns.length ∧ i = .int .i64 j ∧ (ssz (ns.take j) : Int) + (ns.length - j) ≤ left ∧ l = .int .i64 (left - (ssz (ns.take j) : Int) - (ns.length - j)) ∧ Gw w wr) (fun _ i _ => ns.length - (intOf i).toNat)
    case atStart => exact ⟨0, by omega, rfl, by simp [ssz]; omega, by simp [ssz], Gw.refl _⟩
    case round =>
      obtain ⟨j, hj, rfl, hle, rfl, hg⟩ := hrel
      by_cases hlt : j < ns.length
      · have hrow' := hrow.resolve_left (fun e => by subst e; simp at hlt)
        obtain ⟨b, o, rfl, hr⟩ := hrow'
        obtain ⟨c0, hk⟩ := strRow_get (hr.grow sLen sGr hg) j hlt
        have hk2 : ns[j].size ≤ 9223372036854775807 := hk
        have ht := ssz_take ns j hlt
        have hm2 := ssz_rest ns j hlt
        clear hrow
        by_cases hf : (ns[j].size : Int) ≤ left - (ssz (ns.take j) : Int) - (ns.length - j)
        · have HT := Lib.hid ht
          have hp : 0 ≤ left - (ssz (ns.take j) : Int) - (ns.length - j) - ns[j].size := by omega
          clear ht
          go_wp2_with fail
          go_roundw
          case rel => exact ⟨j + 1, by omega, by go_num, by have := HT.out; omega, by have := HT.out; congr 1; omega, hg⟩
          case measure => simp [intOf]; omega
        · have HT := Lib.hid ht
          have hp : left - (ssz (ns.take j) : Int) - (ns.length - j) - ns[j].size < 0 := by omega
          clear ht
          go_wp2_with fail
          go_ret
          exact ⟨ret_int (by have := HT.out; unfold szR; rw [if_neg (by omega)]), hg⟩
      · obtain rfl : j = ns.length := by omega
        go_wp2_with fail
        go_ret
        exact ⟨ret_int (by rw [List.take_length] at hle ⊢; unfold szR; rw [if_pos (by omega)]; omega), hg⟩

def ToStr (w : World) (ns : List ByteArray) (e : Ending) (w' : World) : Prop := ∃ (a : Option Addr) (cap : Nat), e = .returned (.slice a ns.length cap) ∧ strNew w.heap.size w' a cap ns ∧ Gw w w'

theorem laws_toStrS (ns : List ByteArray) (w : World) (a : Option Addr) (cap : Nat) (h : strSl w a cap ns) (hl : ns.length ≤ 1048576) :
    Calls Try.prog 51 #[.slice a ns.length cap] w (ToStr w ns) := by
  obtain ⟨_, _, hrow⟩ := h
  obtain ⟨i0, hi, hz0, hz1, hz2⟩ := info_parts (P := Try.prog) (e := 9) (z := .string ⟨#[]⟩) (size := 1) (bytes := 16) (by kernel_rfl)
  have hmk : ∀ W : World, (Instr.makeSlice 35 (.int .i64 (ns.length : Int)) (.int .i64 (ns.length : Int))).run Try.prog W = .ok (.slice (some ⟨W.heap.size, 0, none⟩) ns.length ns.length) (W.alloc (.cells (madeCells #[.string ⟨#[]⟩] ns.length) 9)) := fun W => by
    have hr := run_make (P := Try.prog) W 35 9 i0 _ Try.underlying35 hi hz0 .i64 .i64 (ns.length : Int) (ns.length : Int) (by omega) (Int.le_refl _) (by rw [hz2]; omega) (by omega)
    rw [Int.toNat_natCast, hz1, Nat.mul_one] at hr
    exact hr
  have HI := Lib.hid hi
  clear hi hz0 hz1 hz2
  go_enter Try.func51, Try.ntmps51
  go_wp2_with fail
  have hgw0 : Gw w (w.alloc (.cells (madeCells #[.string ⟨#[]⟩] ns.length) 9)) := (Gw.refl w).alloc _
  go_loopw [4] (fun i wr => ∃ us : List ByteArray, i = .int .i64 us.length ∧ us = ns.take us.length ∧ gFill 1 sE sOk sB wr w.heap.size ns.length us ∧ Gw w wr) (fun i _ => ns.length - (intOf i).toNat)
  case atStart => exact ⟨[], rfl, rfl, gFill.start _ _ _ ⟨_, _, heap_alloc_new _ _, by rw [size_madeCells]; omega⟩, hgw0⟩
  case round =>
    obtain ⟨us, rfl, hty, hfill, hg⟩ := hrel
    have HT := Lib.hid hty
    have HF := Lib.hid hfill
    have hj : us.length ≤ ns.length := hfill.1
    clear hty hfill hgw0 HI hmk
    by_cases hlt : us.length < ns.length
    · have hrow' := hrow.resolve_left (fun e => by subst e; simp at hlt)
      obtain ⟨b, o, rfl, hr⟩ := hrow'
      obtain ⟨c0, hk⟩ := strRow_get (hr.grow sLen sGr hg) us.length hlt
      clear hrow
      obtain ⟨v0, x0⟩ := HF.out.room hlt 0 (by omega)
      have y0 := HF.out.free (us.length * 1 + 0)
      rw [Nat.mul_one, Nat.add_zero] at x0 y0
      go_wp2_with fail
      go_roundw
      case rel =>
        have hl1 : us.length + 1 = (us ++ [ns[us.length]]).length := by simp
        refine ⟨us ++ [ns[us.length]], by rw [← hl1]; go_num, ?_, ?_, ?_⟩
        · rw [← hl1, List.take_succ_eq_append_getElem hlt, ← HT.out]
        · have := HF.out.put sLen sFr hlt (B := w.heap.size + 1) (u := ns[us.length]) ⟨hk, List.nodup_nil, fun _ h => by cases h⟩ (fun b hb => by simp [sB] at hb) (by omega)
          rw [Nat.mul_one] at this
          exact this
        · exact Below.setCell hg (by simp) _
      case measure => simp [intOf]; omega
    · have hall : us.length = ns.length := by omega
      have hus : us = ns := by have := HT.out; rw [hall, List.take_length] at this; exact this
      subst hus
      have hdone := HF.out.done (cap := us.length) (B := w.heap.size) hj (by unfold maxLen; omega) (Nat.le_refl _)
      have HD := Lib.hid hdone
      clear hdone
      go_wp2_with fail
      go_ret
      exact ⟨_, _, rfl, HD.out, hg⟩

set_option maxRecDepth 100000 in
theorem laws_eqStrS (xs : List ByteArray) (w : World) (a b : Option Addr) (c d : Nat) (ho : strSl w a c xs) (hp : strSl w b d xs) :
    Calls Try.prog 54 #[.slice a xs.length c, .slice b xs.length d] w (TrueGw w) := by
  have hn : xs.length ≤ 9223372036854775807 := Nat.le_trans ho.1 ho.2.1
  have hr1 := ho.2.2
  have hr2 := hp.2.2
  clear ho hp
  go_enter Try.func54, Try.ntmps54
  go_wp2_with fail
  go_loopw [5] (fun i wr => ∃ j : Nat, j ≤ xs.length ∧ i = .int .i64 j ∧ Gw w wr) (fun i _ => xs.length - (intOf i).toNat)
  case atStart => exact ⟨0, by omega, rfl, Gw.refl _⟩
  case round =>
    obtain ⟨j, hj, rfl, hg⟩ := hrel
    by_cases hlt : j < xs.length
    · obtain ⟨b1, o1, rfl, r1⟩ := hr1.resolve_left (fun e => by subst e; simp at hlt)
      obtain ⟨b2, o2, rfl, r2⟩ := hr2.resolve_left (fun e => by subst e; simp at hlt)
      obtain ⟨c0, hk⟩ := strRow_get (r1.grow sLen sGr hg) j hlt
      obtain ⟨d0, _⟩ := strRow_get (r2.grow sLen sGr hg) j hlt
      clear hr1 hr2
      have q1 : (xs[j].toList != xs[j].toList) = false := by simp
      have q2 : (xs[j].toList == xs[j].toList) = true := by simp
      go_wp2_with (go_quiet (fail))
      go_roundw
      case rel => exact ⟨j + 1, by omega, by go_num, by first | exact hg.drewN _ | exact hg | exact hg.drew⟩
      case measure => simp [intOf]; omega
    · obtain rfl : j = xs.length := by omega
      go_wp2_with fail
      go_ret
      exact ⟨rfl, hg⟩

end Go.Proofs.Ytbbldkhlclfmkaa.Con
