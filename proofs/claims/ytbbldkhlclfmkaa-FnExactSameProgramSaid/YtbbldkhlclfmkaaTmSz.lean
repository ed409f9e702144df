/-
  The laws' own functions szTermS and szTerm: they count a term, or say -1. No condition but that the term can be read.
-/
import Derived.Test.YtbbldkhlclfmkaaStrS
import Derived.Test.YtbbldkhlclfmkaaTySz
namespace Go.Proofs.Ytbbldkhlclfmkaa.Con
open Go.RowKit
set_option linter.unusedVariables false

def SzP (w : World) (left : Int) (s : Nat) (e : Ending) (w' : World) : Prop := e = .returned (.int .i64 (szR left s)) ∧ Gw w w'

theorem szTermS_of (ks : List LM) (ih : ∀ t ∈ ks, ∀ (w : World) (left : Int), t.Ok w → 0 ≤ left → left ≤ 1048576 → Calls Try.prog 18 #[t.val, .int .i64 left] w (SzP w left t.sz))
    (w : World) (a : Option Addr) (cap : Nat) (left : Int) (h : tmSl w a cap ks) (h0 : 0 ≤ left) (h1 : left ≤ 1048576) :
    Calls Try.prog 49 #[.slice a ks.length cap, .int .i64 left] w (SzP w left (sm LM.sz ks)) := by
  obtain ⟨hlc, hcap, hrow⟩ := h
  have hl : ks.length ≤ 9223372036854775807 := Nat.le_trans hlc hcap
  clear hlc hcap
  by_cases hsm : left < ks.length
  · have := sm_ge LM.sz ks
    have hsm2 : left - ks.length < 0 := by omega
    go_enter Try.func49, Try.ntmps49
    go_wp2_with fail
    go_ret
    exact ⟨ret_int (by unfold szR; rw [if_neg (by omega)]), Gw.refl _⟩
  · have hsm2 : 0 ≤ left - ks.length := by omega
    have hsm3 : (ks.length : Int) ≤ left := by omega
    go_enter Try.func49, Try.ntmps49
    go_wp2_with fail
    clear hsm2 hsm3
    go_loopw [1, 5] (fun l i wr => ∃ j : Nat, j ≤ ks.length ∧ i = .int .i64 j ∧ (sm LM.sz (ks.take j) : Int) + (ks.length - j) ≤ left ∧ l = .int .i64 (left - (sm LM.sz (ks.take j) : Int) - (ks.length - j)) ∧ Gw w wr) (fun _ i _ => ks.length - (intOf i).toNat)
    case atStart => exact ⟨0, by omega, rfl, by simp [sm_nil]; omega, by simp [sm_nil], Gw.refl _⟩
    case round =>
      obtain ⟨j, hj, rfl, hle, rfl, hg⟩ := hrel
      by_cases hlt : j < ks.length
      · have hrow' := hrow.resolve_left (fun e => by subst e; simp at hlt)
        obtain ⟨b, o, rfl, hr⟩ := hrow'
        obtain ⟨c0, c1, c2, c3, c4, c5, c6, c7, hk⟩ := tmRow_get (hr.grow tmLen tmGr hg) j hlt
        have ht := sm_take LM.sz ks j hlt
        have hm2 := sm_rest LM.sz ks j hlt
        clear hrow hr
        by_cases hf : (LM.sz ks[j] : Int) ≤ left - (sm LM.sz (ks.take j) : Int) - (ks.length - j)
        · have hs : szR (left - (sm LM.sz (ks.take j) : Int) - (ks.length - j)) (LM.sz ks[j]) = left - (sm LM.sz (ks.take j) : Int) - (ks.length - j) - LM.sz ks[j] := if_pos hf
          have HS := Lib.hid hs
          have HT := Lib.hid ht
          clear hs ht
          go_wp2_with fail
          refine (ih ks[j] (List.getElem_mem hlt) _ _ hk (by omega) (by omega)).mono ?_
          rintro e w1 ⟨he, hg1⟩
          rw [HS.out] at he
          subst he
          have hg2 := hg.trans hg1
          have hp : 0 ≤ left - (sm LM.sz (ks.take j) : Int) - (ks.length - j) - LM.sz ks[j] := by omega
          go_wp2_with fail
          go_roundw
          case rel => exact ⟨j + 1, by omega, by go_num, by have := HT.out; omega, by have := HT.out; congr 1; omega, hg2⟩
          case measure => simp [intOf]; omega
        · have hs : szR (left - (sm LM.sz (ks.take j) : Int) - (ks.length - j)) (LM.sz ks[j]) = -1 := if_neg hf
          have HS := Lib.hid hs
          have HT := Lib.hid ht
          clear hs ht
          go_wp2_with fail
          refine (ih ks[j] (List.getElem_mem hlt) _ _ hk (by omega) (by omega)).mono ?_
          rintro e w1 ⟨he, hg1⟩
          rw [HS.out] at he
          subst he
          have hg2 := hg.trans hg1
          go_wp2_with fail
          go_ret
          exact ⟨ret_int (by have := HT.out; unfold szR; rw [if_neg (by omega)]), hg2⟩
      · obtain rfl : j = ks.length := by omega
        go_wp2_with fail
        go_ret
        exact ⟨ret_int (by rw [List.take_length] at hle ⊢; unfold szR; rw [if_pos (by omega)]; omega), hg⟩

set_option maxRecDepth 100000 in
theorem szTerm_of (u : LM) (ih : ∀ (w : World) (left : Int), tmSl w u.a u.cap u.ks → 0 ≤ left → left ≤ 1048576 → Calls Try.prog 49 #[.slice u.a u.ks.length u.cap, .int .i64 left] w (SzP w left (sm LM.sz u.ks)))
    (w : World) (left : Int) (h : u.Ok w) (h0 : 0 ≤ left) (h1 : left ≤ 1048576) : Calls Try.prog 18 #[u.val, .int .i64 left] w (SzP w left u.sz) := by
  have hn : u.n.size ≤ 9223372036854775807 := h.nm
  have hT := Lib.hid h.ty
  have hN := Lib.hid h.nms
  have hK := Lib.hid h.kids
  have HZ := Lib.hid u.sz_eq
  clear h
  obtain ⟨x1, hx1⟩ : ∃ x, x = u.t.sz := ⟨_, rfl⟩
  obtain ⟨x2, hx2⟩ : ∃ x, x = ssz u.ns := ⟨_, rfl⟩
  obtain ⟨x3, hx3⟩ : ∃ x, x = sm LM.sz u.ks := ⟨_, rfl⟩
  have HZ2 : u.sz = u.n.size + x1 + x2 + x3 := by rw [HZ.out, hx1, hx2, hx3]
  have HZ2 := Lib.hid HZ2
  have HX1 := Lib.hid hx1
  have HX2 := Lib.hid hx2
  have HX3 := Lib.hid hx3
  clear hx1 hx2 hx3
  have hg0 : Gw w (w.alloc (.cells #[.int .i64 u.k, .int .i64 u.m, .string u.n, .int .i64 u.t.k, .string u.t.n, .slice u.t.a u.t.ks.length u.t.cap, .slice u.na u.ns.length u.nc, .slice u.a u.ks.length u.cap] 38)) := (Gw.refl w).alloc _
  by_cases hsm : left < u.n.size
  · have hsm2 : left - u.n.size < 0 := by omega
    clear hT hN hK
    go_enter Try.func18, Try.ntmps18
    go_wp2_with fail
    go_ret
    exact ⟨ret_int (by have := HZ2.out; unfold szR; rw [if_neg (by omega)]), hg0⟩
  have hsm2 : 0 ≤ left - u.n.size := by omega
  have hsm3 : (u.n.size : Int) ≤ left := by omega
  by_cases hf1 : (x1 : Int) ≤ left - u.n.size
  rotate_left
  · have HS1 := Lib.hid (show szR (left - u.n.size) x1 = -1 from if_neg hf1)
    go_enter Try.func18, Try.ntmps18
    go_wp2_with fail
    refine (laws_szType u.t _ _ (hT.out.grow hg0) hsm2 (by omega)).mono ?_
    rintro e w1 ⟨he, hg1a⟩
    rw [← HX1.out, HS1.out] at he
    subst he
    have hg1 := hg1a
    obtain ⟨hc1, _⟩ := bcell hg1
    go_wp2_with fail
    go_ret
    exact ⟨ret_int (by have := HZ2.out; unfold szR; rw [if_neg (by omega)]), hg0.trans hg1⟩
  have HS1 := Lib.hid (show szR (left - u.n.size) x1 = left - u.n.size - x1 from if_pos hf1)
  have hp1 : 0 ≤ left - u.n.size - x1 := by omega
  by_cases hf2 : (x2 : Int) ≤ left - u.n.size - x1
  rotate_left
  · have HS2 := Lib.hid (show szR (left - u.n.size - x1) x2 = -1 from if_neg hf2)
    go_enter Try.func18, Try.ntmps18
    go_wp2_with fail
    refine (laws_szType u.t _ _ (hT.out.grow hg0) hsm2 (by omega)).mono ?_
    rintro e w1 ⟨he, hg1a⟩
    rw [← HX1.out, HS1.out] at he
    subst he
    have hg1 := hg1a
    obtain ⟨hc1, _⟩ := bcell hg1
    go_wp2_with fail
    refine (laws_szStrS u.ns _ u.na u.nc _ (hN.out.grow (hg0.trans hg1)) hp1 (by omega)).mono ?_
    rintro e w2 ⟨he, hg2a⟩
    rw [← HX2.out, HS2.out] at he
    subst he
    have hg2 := Gw.trans hg1 hg2a
    clear hc1
    obtain ⟨hc2, _⟩ := bcell hg2
    go_wp2_with fail
    go_ret
    exact ⟨ret_int (by have := HZ2.out; unfold szR; rw [if_neg (by omega)]), hg0.trans hg2⟩
  have HS2 := Lib.hid (show szR (left - u.n.size - x1) x2 = left - u.n.size - x1 - x2 from if_pos hf2)
  have hp2 : 0 ≤ left - u.n.size - x1 - x2 := by omega
  by_cases hf3 : (x3 : Int) ≤ left - u.n.size - x1 - x2
  rotate_left
  · have HS3 := Lib.hid (show szR (left - u.n.size - x1 - x2) x3 = -1 from if_neg hf3)
    go_enter Try.func18, Try.ntmps18
    go_wp2_with fail
    refine (laws_szType u.t _ _ (hT.out.grow hg0) hsm2 (by omega)).mono ?_
    rintro e w1 ⟨he, hg1a⟩
    rw [← HX1.out, HS1.out] at he
    subst he
    have hg1 := hg1a
    obtain ⟨hc1, _⟩ := bcell hg1
    go_wp2_with fail
    refine (laws_szStrS u.ns _ u.na u.nc _ (hN.out.grow (hg0.trans hg1)) hp1 (by omega)).mono ?_
    rintro e w2 ⟨he, hg2a⟩
    rw [← HX2.out, HS2.out] at he
    subst he
    have hg2 := Gw.trans hg1 hg2a
    clear hc1
    obtain ⟨hc2, _⟩ := bcell hg2
    go_wp2_with fail
    refine (ih _ _ (hK.out.grow tmLen tmGr (hg0.trans hg2)) hp2 (by omega)).mono ?_
    rintro e w3 ⟨he, hg3a⟩
    rw [← HX3.out, HS3.out] at he
    subst he
    have hg3 := Gw.trans hg2 hg3a
    go_wp2_with fail
    go_ret
    exact ⟨ret_int (by have := HZ2.out; unfold szR; rw [if_neg (by omega)]), hg0.trans hg3⟩
  have HS3 := Lib.hid (show szR (left - u.n.size - x1 - x2) x3 = left - u.n.size - x1 - x2 - x3 from if_pos hf3)
  have hp3 : 0 ≤ left - u.n.size - x1 - x2 - x3 := by omega
  go_enter Try.func18, Try.ntmps18
  go_wp2_with fail
  refine (laws_szType u.t _ _ (hT.out.grow hg0) hsm2 (by omega)).mono ?_
  rintro e w1 ⟨he, hg1a⟩
  rw [← HX1.out, HS1.out] at he
  subst he
  have hg1 := hg1a
  obtain ⟨hc1, _⟩ := bcell hg1
  go_wp2_with fail
  refine (laws_szStrS u.ns _ u.na u.nc _ (hN.out.grow (hg0.trans hg1)) hp1 (by omega)).mono ?_
  rintro e w2 ⟨he, hg2a⟩
  rw [← HX2.out, HS2.out] at he
  subst he
  have hg2 := Gw.trans hg1 hg2a
  clear hc1
  obtain ⟨hc2, _⟩ := bcell hg2
  go_wp2_with fail
  refine (ih _ _ (hK.out.grow tmLen tmGr (hg0.trans hg2)) hp2 (by omega)).mono ?_
  rintro e w3 ⟨he, hg3a⟩
  rw [← HX3.out, HS3.out] at he
  subst he
  have hg3 := Gw.trans hg2 hg3a
  go_wp2_with fail
  go_ret
  exact ⟨ret_int (by have := HZ2.out; unfold szR; rw [if_pos (by omega)]; omega), hg0.trans hg3⟩

theorem laws_szTerm (t : LM) : ∀ (w : World) (left : Int), t.Ok w → 0 ≤ left → left ≤ 1048576 → Calls Try.prog 18 #[t.val, .int .i64 left] w (SzP w left t.sz) := by
  refine LM.ind (P := fun t => ∀ (w : World) (left : Int), t.Ok w → 0 ≤ left → left ≤ 1048576 → Calls Try.prog 18 #[t.val, .int .i64 left] w (SzP w left t.sz)) (fun k m n t na nc ns a c ks ih => ?_) t
  exact szTerm_of (.mk k m n t na nc ns a c ks) (fun w left h => szTermS_of ks ih w a c left h)

end Go.Proofs.Ytbbldkhlclfmkaa.Con
