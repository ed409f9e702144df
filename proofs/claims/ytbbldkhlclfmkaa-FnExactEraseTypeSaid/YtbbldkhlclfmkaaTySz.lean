/-
  The laws' own functions on a type that came in: szType counts it, or says -1. No condition but that the type can be read.
-/
import Derived.Test.YtbbldkhlclfmkaaTy
import Derived.Outline
import Derived.LoopTactic
import Derived.Lib.Hide
namespace Go.Proofs.Ytbbldkhlclfmkaa.Con
open Go.RowKit

/-- What szType answers. -/
def szR (left : Int) (s : Nat) : Int := if (s : Int) ≤ left then left - s else -1

theorem sz_rest (ks : List LT) (i : Nat) (hi : i < ks.length) : LT.sz.szl (ks.take (i + 1)) + (ks.length - (i + 1)) ≤ LT.sz.szl ks := by
  induction ks generalizing i with
  | nil => simp at hi
  | cons t ts ih =>
    cases i with
    | zero => simp only [List.take_succ_cons, LT.sz.szl, List.take_zero, List.length_cons]; have := szl_ge ts; omega
    | succ i => simp only [List.take_succ_cons, LT.sz.szl, List.length_cons]; have := ih i (by simpa using hi); omega

theorem szTypeS_of (ks : List LT) (ih : ∀ t ∈ ks, ∀ (w : World) (left : Int), t.Ok w → 0 ≤ left → left ≤ 1048576 → Calls Try.prog 9 #[t.val, .int .i64 left] w fun e w' => e = .returned (.int .i64 (szR left t.sz)) ∧ Gw w w')
    (w : World) (a : Option Addr) (cap : Nat) (left : Int) (h : slOk w a cap ks) (h0 : 0 ≤ left) (h1 : left ≤ 1048576) :
    Calls Try.prog 38 #[.slice a ks.length cap, .int .i64 left] w fun e w' => e = .returned (.int .i64 (szR left (LT.sz.szl ks))) ∧ Gw w w' := by
  obtain ⟨hlc, hcap, hrow⟩ := h
  have hl : ks.length ≤ 9223372036854775807 := Nat.le_trans hlc hcap
  clear hlc hcap
  by_cases hsm : left < ks.length
  · have := szl_ge ks
    have hsm2 : left - ks.length < 0 := by omega
    go_enter Try.func38, Try.ntmps38
    go_wp2_with fail
    go_ret
    exact ⟨ret_int (by unfold szR; rw [if_neg (by omega)]), Gw.refl _⟩
  · have hsm2 : 0 ≤ left - ks.length := by omega
    have hsm3 : (ks.length : Int) ≤ left := by omega
    go_enter Try.func38, Try.ntmps38
    go_wp2_with fail
    clear hsm2 hsm3
    go_loopw [1, 5] (fun l i wr => ∃ j : Nat, j ≤ ks.length ∧ i = .int .i64 j ∧ (LT.sz.szl (ks.take j) : Int) + (ks.length - j) ≤ left ∧ l = .int .i64 (left - (LT.sz.szl (ks.take j) : Int) - (ks.length - j)) ∧ Gw w wr) (fun _ i _ => ks.length - (intOf i).toNat)
    case atStart => exact ⟨0, by omega, rfl, by simp [LT.sz.szl]; omega, by simp [LT.sz.szl], Gw.refl _⟩
    case round =>
      obtain ⟨j, hj, rfl, hle, rfl, hg⟩ := hrel
      by_cases hlt : j < ks.length
      · have hrow' := hrow.resolve_left (fun e => by subst e; simp at hlt)
        obtain ⟨b, o, rfl, hr⟩ := hrow'
        obtain ⟨c0, c1, c2, hk⟩ := rowOk_get (hr.grow hg) j hlt
        have ht := szl_take ks j hlt
        have hm := szl_take_le ks (j + 1)
        have hm2 := sz_rest ks j hlt
        clear hrow
        by_cases hf : (ks[j].sz : Int) ≤ left - (LT.sz.szl (ks.take j) : Int) - (ks.length - j)
        · have hs : szR (left - (LT.sz.szl (ks.take j) : Int) - (ks.length - j)) ks[j].sz = left - (LT.sz.szl (ks.take j) : Int) - (ks.length - j) - ks[j].sz := if_pos hf
          have HS := Lib.hid hs
          have HT := Lib.hid ht
          clear hs ht
          go_wp2_with fail
          refine (ih ks[j] (List.getElem_mem hlt) _ _ hk (by omega) (by omega)).mono ?_
          rintro e w1 ⟨he, hg1⟩
          rw [HS.out] at he
          subst he
          have hg2 := hg.trans hg1
          have hp : 0 ≤ left - (LT.sz.szl (ks.take j) : Int) - (ks.length - j) - ks[j].sz := by omega
          go_wp2_with fail
          go_roundw
          case rel => exact ⟨j + 1, by omega, by go_num, by have := HT.out; omega, by have := HT.out; congr 1; omega, hg2⟩
          case measure => simp [intOf]; omega
        · have hs : szR (left - (LT.sz.szl (ks.take j) : Int) - (ks.length - j)) ks[j].sz = -1 := if_neg hf
          have HS := Lib.hid hs
          have HT := Lib.hid ht
          clear hs ht
          go_wp2_with fail
          refine (ih ks[j] (List.getElem_mem hlt) _ _ hk (by omega) (by omega)).mono ?_
          rintro e w1 ⟨he, hg1⟩
          rw [HS.out] at he
          subst he
          have hg2 := hg.trans hg1
          go_wp2_with fail
          go_ret
          exact ⟨ret_int (by have := HT.out; unfold szR; rw [if_neg (by omega)]), hg2⟩
      · obtain rfl : j = ks.length := by omega
        go_wp2_with fail
        go_ret
        exact ⟨ret_int (by rw [List.take_length] at hle ⊢; unfold szR; rw [if_pos (by omega)]; omega), hg⟩

theorem szType_of (t : LT) (ih : ∀ u ∈ t.ks, ∀ (w : World) (left : Int), u.Ok w → 0 ≤ left → left ≤ 1048576 → Calls Try.prog 9 #[u.val, .int .i64 left] w fun e w' => e = .returned (.int .i64 (szR left u.sz)) ∧ Gw w w')
    (w : World) (left : Int) (h : t.Ok w) (h0 : 0 ≤ left) (h1 : left ≤ 1048576) : Calls Try.prog 9 #[t.val, .int .i64 left] w fun e w' => e = .returned (.int .i64 (szR left t.sz)) ∧ Gw w w' := by
  have hn : t.n.size ≤ 9223372036854775807 := h.nm
  have hz := t.sz_eq
  have HZ := Lib.hid hz
  clear hz
  by_cases hsm : left < t.n.size
  · have hsm2 : left - t.n.size < 0 := by omega
    go_enter Try.func9, Try.ntmps9
    go_wp2_with fail
    go_ret
    exact ⟨ret_int (by have := HZ.out; unfold szR; rw [if_neg (by omega)]), (Gw.refl _).alloc _⟩
  · have hsm2 : 0 ≤ left - t.n.size := by omega
    have hsm3 : (t.n.size : Int) ≤ left := by omega
    have hk := h.kids
    have key := szTypeS_of t.ks ih (w.alloc (.cells #[.int .i64 t.k, .string t.n, .slice t.a t.ks.length t.cap] 24)) t.a t.cap (left - t.n.size) (hk.grow ((Below.refl _ _).alloc (Nat.le_refl _) _)) hsm2 (by omega)
    by_cases hf : (LT.sz.szl t.ks : Int) ≤ left - t.n.size
    · have hs : szR (left - t.n.size) (LT.sz.szl t.ks) = left - t.n.size - LT.sz.szl t.ks := if_pos hf
      have HS := Lib.hid hs
      clear hs
      go_enter Try.func9, Try.ntmps9
      go_wp2_with fail
      refine key.mono ?_
      rintro e w1 ⟨he, hg1⟩
      rw [HS.out] at he
      subst he
      have hg2 := ((Gw.refl w).alloc (.cells #[.int .i64 t.k, .string t.n, .slice t.a t.ks.length t.cap] 24)).trans hg1
      have hp : 0 ≤ left - t.n.size - LT.sz.szl t.ks := by omega
      go_wp2_with fail
      go_ret
      exact ⟨ret_int (by have := HZ.out; unfold szR; rw [if_pos (by omega)]; omega), hg2⟩
    · have hs : szR (left - t.n.size) (LT.sz.szl t.ks) = -1 := if_neg hf
      have HS := Lib.hid hs
      clear hs
      go_enter Try.func9, Try.ntmps9
      go_wp2_with fail
      refine key.mono ?_
      rintro e w1 ⟨he, hg1⟩
      rw [HS.out] at he
      subst he
      have hg2 := ((Gw.refl w).alloc (.cells #[.int .i64 t.k, .string t.n, .slice t.a t.ks.length t.cap] 24)).trans hg1
      go_wp2_with fail
      go_ret
      exact ⟨ret_int (by have := HZ.out; unfold szR; rw [if_neg (by omega)]), hg2⟩

theorem laws_szType (t : LT) : ∀ (w : World) (left : Int), t.Ok w → 0 ≤ left → left ≤ 1048576 → Calls Try.prog 9 #[t.val, .int .i64 left] w fun e w' => e = .returned (.int .i64 (szR left t.sz)) ∧ Gw w w' := by
  refine LT.ind (P := fun t => ∀ (w : World) (left : Int), t.Ok w → 0 ≤ left → left ≤ 1048576 → Calls Try.prog 9 #[t.val, .int .i64 left] w fun e w' => e = .returned (.int .i64 (szR left t.sz)) ∧ Gw w w') (fun k n a c ks ih => ?_) t
  exact szType_of (.mk k n a c ks) ih

theorem laws_szTypeS (ks : List LT) (w : World) (a : Option Addr) (cap : Nat) (left : Int) (h : slOk w a cap ks) (h0 : 0 ≤ left) (h1 : left ≤ 1048576) :
    Calls Try.prog 38 #[.slice a ks.length cap, .int .i64 left] w fun e w' => e = .returned (.int .i64 (szR left (LT.sz.szl ks))) ∧ Gw w w' :=
  szTypeS_of ks (fun t _ => laws_szType t) w a cap left h h0 h1

end Go.Proofs.Ytbbldkhlclfmkaa.Con
