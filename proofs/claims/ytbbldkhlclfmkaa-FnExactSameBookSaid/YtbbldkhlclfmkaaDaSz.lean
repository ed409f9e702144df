/-
  The laws' own functions szConstructor, szConstructorS, szData, szDataS: they count, or say -1. No condition but that the list can be read.
-/
import Derived.Test.YtbbldkhlclfmkaaDa
import Derived.Test.YtbbldkhlclfmkaaTySz
namespace Go.Proofs.Ytbbldkhlclfmkaa.Con
open Go.RowKit
set_option linter.unusedVariables false

/-- The count of a row. -/
def sm {α : Type} (z : α → Nat) (xs : List α) : Nat := (xs.map fun c => 1 + z c).sum
theorem sm_cons {α : Type} (z : α → Nat) (x : α) (xs : List α) : sm z (x :: xs) = 1 + z x + sm z xs := by simp [sm]
theorem sm_nil {α : Type} (z : α → Nat) : sm z [] = 0 := by simp [sm]
theorem sm_take {α : Type} (z : α → Nat) (ks : List α) (i : Nat) (hi : i < ks.length) : sm z (ks.take (i + 1)) = sm z (ks.take i) + 1 + z ks[i] := by
  induction ks generalizing i with
  | nil => simp at hi
  | cons t ts ih =>
    cases i with
    | zero => simp [sm_cons, sm_nil]
    | succ i => simp only [List.take_succ_cons, sm_cons, List.getElem_cons_succ]; have := ih i (by simpa using hi); omega
theorem sm_ge {α : Type} (z : α → Nat) (ks : List α) : ks.length ≤ sm z ks := by
  induction ks with
  | nil => simp
  | cons t ts ih => simp only [List.length_cons, sm_cons]; omega
theorem sm_rest {α : Type} (z : α → Nat) (ks : List α) (i : Nat) (hi : i < ks.length) : sm z (ks.take (i + 1)) + (ks.length - (i + 1)) ≤ sm z ks := by
  induction ks generalizing i with
  | nil => simp at hi
  | cons t ts ih =>
    cases i with
    | zero => simp only [List.take_succ_cons, sm_cons, List.take_zero, sm_nil, List.length_cons]; have := sm_ge z ts; omega
    | succ i => simp only [List.take_succ_cons, sm_cons, List.length_cons]; have := ih i (by simpa using hi); omega
theorem sm_mem {α : Type} (z : α → Nat) {ks : List α} {t : α} (h : t ∈ ks) : 1 + z t ≤ sm z ks := by
  induction ks with
  | nil => cases h
  | cons u us ih =>
    rw [sm_cons]
    rcases List.mem_cons.1 h with rfl | h
    · omega
    · have := ih h; omega

theorem laws_szConstructor (t : LC) (w : World) (left : Int) (h : cOk w t) (h0 : 0 ≤ left) (h1 : left ≤ 1048576) : Calls Try.prog 126 #[t.val, .int .i64 left] w fun e w' => e = .returned (.int .i64 (szR left (csz t))) ∧ Gw w w' := by
  have hn : t.n.size ≤ 9223372036854775807 := h.1
  have hz : csz t = t.n.size + LT.sz.szl t.xs := rfl
  have HZ := Lib.hid hz
  clear hz
  by_cases hsm : left < t.n.size
  · have hsm2 : left - t.n.size < 0 := by omega
    go_enter Try.func126, Try.ntmps126
    go_wp2_with fail
    go_ret
    exact ⟨ret_int (by have := HZ.out; unfold szR; rw [if_neg (by omega)]), (Gw.refl _).alloc _⟩
  · have hsm2 : 0 ≤ left - t.n.size := by omega
    have hsm3 : (t.n.size : Int) ≤ left := by omega
    have key := laws_szTypeS t.xs (w.alloc (.cells #[.string t.n, .slice t.a t.xs.length t.cap] 188)) t.a t.cap (left - t.n.size) (h.2.grow ((Below.refl _ _).alloc (Nat.le_refl _) _)) hsm2 (by omega)
    by_cases hf : (LT.sz.szl t.xs : Int) ≤ left - t.n.size
    · have hs : szR (left - t.n.size) (LT.sz.szl t.xs) = left - t.n.size - LT.sz.szl t.xs := if_pos hf
      have HS := Lib.hid hs
      clear hs
      go_enter Try.func126, Try.ntmps126
      go_wp2_with fail
      refine key.mono ?_
      rintro e w1 ⟨he, hg1⟩
      rw [HS.out] at he
      subst he
      have hg2 := ((Gw.refl w).alloc (.cells #[.string t.n, .slice t.a t.xs.length t.cap] 188)).trans hg1
      have hp : 0 ≤ left - t.n.size - LT.sz.szl t.xs := by omega
      go_wp2_with fail
      go_ret
      exact ⟨ret_int (by have := HZ.out; unfold szR; rw [if_pos (by omega)]; omega), hg2⟩
    · have hs : szR (left - t.n.size) (LT.sz.szl t.xs) = -1 := if_neg hf
      have HS := Lib.hid hs
      clear hs
      go_enter Try.func126, Try.ntmps126
      go_wp2_with fail
      refine key.mono ?_
      rintro e w1 ⟨he, hg1⟩
      rw [HS.out] at he
      subst he
      have hg2 := ((Gw.refl w).alloc (.cells #[.string t.n, .slice t.a t.xs.length t.cap] 188)).trans hg1
      go_wp2_with fail
      go_ret
      exact ⟨ret_int (by have := HZ.out; unfold szR; rw [if_neg (by omega)]), hg2⟩

theorem laws_szConstructorS (ks : List LC) (w : World) (a : Option Addr) (cap : Nat) (left : Int) (h : nsl cOk w a cap ks) (h0 : 0 ≤ left) (h1 : left ≤ 1048576) :
    Calls Try.prog 114 #[.slice a ks.length cap, .int .i64 left] w fun e w' => e = .returned (.int .i64 (szR left (sm csz ks))) ∧ Gw w w' := by
  obtain ⟨hlc, hcap, hrow⟩ := h
  have hl : ks.length ≤ 9223372036854775807 := Nat.le_trans hlc hcap
  clear hlc hcap
  by_cases hsm : left < ks.length
  · have := sm_ge csz ks
    have hsm2 : left - ks.length < 0 := by omega
    go_enter Try.func114, Try.ntmps114
    go_wp2_with fail
    go_ret
    exact ⟨ret_int (by unfold szR; rw [if_neg (by omega)]), Gw.refl _⟩
  · have hsm2 : 0 ≤ left - ks.length := by omega
    have hsm3 : (ks.length : Int) ≤ left := by omega
    go_enter Try.func114, Try.ntmps114
    go_wp2_with fail
    clear hsm2 hsm3
    go_loopw [1, 5] (fun l i wr => ∃ j : Nat, j ≤ ks.length ∧ i = .int .i64 j ∧ (sm csz (ks.take j) : Int) + (ks.length - j) ≤ left ∧ l = .int .i64 (left - (sm csz (ks.take j) : Int) - (ks.length - j)) ∧ Gw w wr) (fun _ i _ => ks.length - (intOf i).toNat)
    case atStart => exact ⟨0, by omega, rfl, by simp [sm_nil]; omega, by simp [sm_nil], Gw.refl _⟩
    case round =>
      obtain ⟨j, hj, rfl, hle, rfl, hg⟩ := hrel
      by_cases hlt : j < ks.length
      · have hrow' := hrow.resolve_left (fun e => by subst e; simp at hlt)
        obtain ⟨b, o, rfl, hr⟩ := hrow'
        obtain ⟨c0, c1, hk⟩ := (hr.grow hg (fun _ h => h.grow hg)) j hlt
        have ht := sm_take csz ks j hlt
        have hm2 := sm_rest csz ks j hlt
        clear hrow hr
        by_cases hf : (csz ks[j] : Int) ≤ left - (sm csz (ks.take j) : Int) - (ks.length - j)
        · have hs : szR (left - (sm csz (ks.take j) : Int) - (ks.length - j)) (csz ks[j]) = left - (sm csz (ks.take j) : Int) - (ks.length - j) - csz ks[j] := if_pos hf
          have HS := Lib.hid hs
          have HT := Lib.hid ht
          clear hs ht
          go_wp2_with fail
          refine (laws_szConstructor ks[j] _ _ hk (by omega) (by omega)).mono ?_
          rintro e w1 ⟨he, hg1⟩
          rw [HS.out] at he
          subst he
          have hg2 := hg.trans hg1
          have hp : 0 ≤ left - (sm csz (ks.take j) : Int) - (ks.length - j) - csz ks[j] := by omega
          go_wp2_with fail
          go_roundw
          case rel => exact ⟨j + 1, by omega, by go_num, by have := HT.out; omega, by have := HT.out; congr 1; omega, hg2⟩
          case measure => simp [intOf]; omega
        · have hs : szR (left - (sm csz (ks.take j) : Int) - (ks.length - j)) (csz ks[j]) = -1 := if_neg hf
          have HS := Lib.hid hs
          have HT := Lib.hid ht
          clear hs ht
          go_wp2_with fail
          refine (laws_szConstructor ks[j] _ _ hk (by omega) (by omega)).mono ?_
          rintro e w1 ⟨he, hg1⟩
          rw [HS.out] at he
          subst he
          have hg2 := hg.trans hg1
          go_wp2_with fail
          go_ret
          exact ⟨ret_int (by have := HT.out; unfold szR; rw [if_neg (by omega)]), hg2⟩
      · obtain rfl : j = ks.length := by omega
        go_wp2_with fail
        go_ret
        exact ⟨ret_int (by rw [List.take_length] at hle ⊢; unfold szR; rw [if_pos (by omega)]; omega), hg⟩

theorem laws_szData (t : LD) (w : World) (left : Int) (h : dOk w t) (h0 : 0 ≤ left) (h1 : left ≤ 1048576) : Calls Try.prog 92 #[t.val, .int .i64 left] w fun e w' => e = .returned (.int .i64 (szR left (dsz t))) ∧ Gw w w' := by
  have hn : t.n.size ≤ 9223372036854775807 := h.1
  have hz : dsz t = t.n.size + sm csz t.xs := rfl
  have HZ := Lib.hid hz
  clear hz
  by_cases hsm : left < t.n.size
  · have hsm2 : left - t.n.size < 0 := by omega
    go_enter Try.func92, Try.ntmps92
    go_wp2_with fail
    go_ret
    exact ⟨ret_int (by have := HZ.out; unfold szR; rw [if_neg (by omega)]), (Gw.refl _).alloc _⟩
  · have hsm2 : 0 ≤ left - t.n.size := by omega
    have hsm3 : (t.n.size : Int) ≤ left := by omega
    have key := laws_szConstructorS t.xs (w.alloc (.cells #[.string t.n, .slice t.a t.xs.length t.cap] 140)) t.a t.cap (left - t.n.size) (csOk.grow h.2 ((Below.refl _ _).alloc (Nat.le_refl _) _)) hsm2 (by omega)
    by_cases hf : (sm csz t.xs : Int) ≤ left - t.n.size
    · have hs : szR (left - t.n.size) (sm csz t.xs) = left - t.n.size - sm csz t.xs := if_pos hf
      have HS := Lib.hid hs
      clear hs
      go_enter Try.func92, Try.ntmps92
      go_wp2_with fail
      refine key.mono ?_
      rintro e w1 ⟨he, hg1⟩
      rw [HS.out] at he
      subst he
      have hg2 := ((Gw.refl w).alloc (.cells #[.string t.n, .slice t.a t.xs.length t.cap] 140)).trans hg1
      have hp : 0 ≤ left - t.n.size - sm csz t.xs := by omega
      go_wp2_with fail
      go_ret
      exact ⟨ret_int (by have := HZ.out; unfold szR; rw [if_pos (by omega)]; omega), hg2⟩
    · have hs : szR (left - t.n.size) (sm csz t.xs) = -1 := if_neg hf
      have HS := Lib.hid hs
      clear hs
      go_enter Try.func92, Try.ntmps92
      go_wp2_with fail
      refine key.mono ?_
      rintro e w1 ⟨he, hg1⟩
      rw [HS.out] at he
      subst he
      have hg2 := ((Gw.refl w).alloc (.cells #[.string t.n, .slice t.a t.xs.length t.cap] 140)).trans hg1
      go_wp2_with fail
      go_ret
      exact ⟨ret_int (by have := HZ.out; unfold szR; rw [if_neg (by omega)]), hg2⟩

theorem laws_szDataS (ks : List LD) (w : World) (a : Option Addr) (cap : Nat) (left : Int) (h : nsl dOk w a cap ks) (h0 : 0 ≤ left) (h1 : left ≤ 1048576) :
    Calls Try.prog 56 #[.slice a ks.length cap, .int .i64 left] w fun e w' => e = .returned (.int .i64 (szR left (sm dsz ks))) ∧ Gw w w' := by
  obtain ⟨hlc, hcap, hrow⟩ := h
  have hl : ks.length ≤ 9223372036854775807 := Nat.le_trans hlc hcap
  clear hlc hcap
  by_cases hsm : left < ks.length
  · have := sm_ge dsz ks
    have hsm2 : left - ks.length < 0 := by omega
    go_enter Try.func56, Try.ntmps56
    go_wp2_with fail
    go_ret
    exact ⟨ret_int (by unfold szR; rw [if_neg (by omega)]), Gw.refl _⟩
  · have hsm2 : 0 ≤ left - ks.length := by omega
    have hsm3 : (ks.length : Int) ≤ left := by omega
    go_enter Try.func56, Try.ntmps56
    go_wp2_with fail
    clear hsm2 hsm3
    go_loopw [1, 5] (fun l i wr => ∃ j : Nat, j ≤ ks.length ∧ i = .int .i64 j ∧ (sm dsz (ks.take j) : Int) + (ks.length - j) ≤ left ∧ l = .int .i64 (left - (sm dsz (ks.take j) : Int) - (ks.length - j)) ∧ Gw w wr) (fun _ i _ => ks.length - (intOf i).toNat)
    case atStart => exact ⟨0, by omega, rfl, by simp [sm_nil]; omega, by simp [sm_nil], Gw.refl _⟩
    case round =>
      obtain ⟨j, hj, rfl, hle, rfl, hg⟩ := hrel
      by_cases hlt : j < ks.length
      · have hrow' := hrow.resolve_left (fun e => by subst e; simp at hlt)
        obtain ⟨b, o, rfl, hr⟩ := hrow'
        obtain ⟨c0, c1, hk⟩ := (hr.grow hg (fun _ h => h.grow hg)) j hlt
        have ht := sm_take dsz ks j hlt
        have hm2 := sm_rest dsz ks j hlt
        clear hrow hr
        by_cases hf : (dsz ks[j] : Int) ≤ left - (sm dsz (ks.take j) : Int) - (ks.length - j)
        · have hs : szR (left - (sm dsz (ks.take j) : Int) - (ks.length - j)) (dsz ks[j]) = left - (sm dsz (ks.take j) : Int) - (ks.length - j) - dsz ks[j] := if_pos hf
          have HS := Lib.hid hs
          have HT := Lib.hid ht
          clear hs ht
          go_wp2_with fail
          refine (laws_szData ks[j] _ _ hk (by omega) (by omega)).mono ?_
          rintro e w1 ⟨he, hg1⟩
          rw [HS.out] at he
          subst he
          have hg2 := hg.trans hg1
          have hp : 0 ≤ left - (sm dsz (ks.take j) : Int) - (ks.length - j) - dsz ks[j] := by omega
          go_wp2_with fail
          go_roundw
          case rel => exact ⟨j + 1, by omega, by go_num, by have := HT.out; omega, by have := HT.out; congr 1; omega, hg2⟩
          case measure => simp [intOf]; omega
        · have hs : szR (left - (sm dsz (ks.take j) : Int) - (ks.length - j)) (dsz ks[j]) = -1 := if_neg hf
          have HS := Lib.hid hs
          have HT := Lib.hid ht
          clear hs ht
          go_wp2_with fail
          refine (laws_szData ks[j] _ _ hk (by omega) (by omega)).mono ?_
          rintro e w1 ⟨he, hg1⟩
          rw [HS.out] at he
          subst he
          have hg2 := hg.trans hg1
          go_wp2_with fail
          go_ret
          exact ⟨ret_int (by have := HT.out; unfold szR; rw [if_neg (by omega)]), hg2⟩
      · obtain rfl : j = ks.length := by omega
        go_wp2_with fail
        go_ret
        exact ⟨ret_int (by rw [List.take_length] at hle ⊢; unfold szR; rw [if_pos (by omega)]; omega), hg⟩

end Go.Proofs.Ytbbldkhlclfmkaa.Con
