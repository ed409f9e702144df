/-
  What a node binds: names bound at its kids, which kids stay visible; contracts of the model's l03Binds and the program's boundNames and kidsOutsideScope. Condition: the term lies in memory.
-/
import Derived.Test.YtkfplnnncfkjfaaDoorAllT
namespace Go.Proofs.YtkfplnnncfkjfaaDoor.Con
open Go.RowKit
set_option linter.unusedVariables false

def bnd (k : Int) (n : ByteArray) (ns : List ByteArray) : List ByteArray := if k = 4 ∨ k = 7 then [n] else if k = 10 then ns else []
def bndI (k : Int) (i : Nat) (n : ByteArray) (ns : List ByteArray) : List ByteArray := if k = 4 ∨ (k = 7 ∧ i = 1) then [n] else if k = 10 then ns else []
/-- How many kids lie outside the scope of a name that a node binds. -/
def visC (k : Int) (n : ByteArray) (ns : List ByteArray) (nm : ByteArray) (l : Nat) : Nat := if hasB (bnd k n ns) nm = true then l - 1 else l
theorem vis_le (k : Int) (n : ByteArray) (ns : List ByteArray) (nm : ByteArray) (l : Nat) : visC k n ns nm l ≤ l := by unfold visC; split <;> omega

theorem ok_len {t : Tm} {c : Bool} (h : t.ok c = true) : kidsLo t.k ≤ t.ks.length ∧ (t.ks.length : Int) ≤ kidsHi t.k := by
  rw [ok_eq, Bool.and_eq_true, Bool.and_eq_true] at h
  have h2 := h.2.1
  unfold headM inI at h2
  simp only [Bool.and_eq_true, decide_eq_true_eq] at h2
  exact h2.1
theorem bnd_kid {t : Tm} {c : Bool} (h : t.ok c = true) {i : Nat} (hi : i < t.ks.length) (nm : ByteArray) : hasB (bndI t.k i t.n t.ns) nm = decide (visC t.k t.n t.ns nm t.ks.length ≤ i) := by
  have hl := ok_len h
  unfold bndI visC bnd
  by_cases h4 : t.k = 4
  · rw [h4] at hl ⊢
    simp only [kidsLo, kidsHi] at hl
    simp at hl
    have : t.ks.length = 1 := by omega
    obtain rfl : i = 0 := by omega
    cases hb : hasB [t.n] nm <;> simp [hb, this]
  · by_cases h7 : t.k = 7
    · rw [h7] at hl ⊢
      simp only [kidsLo, kidsHi] at hl
      simp at hl
      have hl2 : t.ks.length = 2 := by omega
      rcases (show i = 0 ∨ i = 1 by omega) with rfl | rfl
      · have e0 : hasB ([] : List ByteArray) nm = false := rfl
        cases hb : hasB [t.n] nm <;> simp [hb, hl2, e0]
      · cases hb : hasB [t.n] nm <;> simp [hb, hl2]
    · by_cases h10 : t.k = 10
      · rw [h10] at hl ⊢
        simp only [kidsLo, kidsHi] at hl
        simp at hl
        have : t.ks.length = 1 := by omega
        obtain rfl : i = 0 := by omega
        cases hb : hasB t.ns nm <;> simp [hb, this]
      · simp [h4, h7, h10, hasB]
        exact hi
/-- Where a name is bound, there is a kid. -/
theorem bnd_pos {t : Tm} {c : Bool} (h : t.ok c = true) {nm : ByteArray} (hb : hasB (bnd t.k t.n t.ns) nm = true) : 1 ≤ t.ks.length := by
  have hl := ok_len h
  unfold bnd at hb
  by_cases h4 : t.k = 4
  · rw [h4] at hl; simp [kidsLo] at hl; omega
  · by_cases h7 : t.k = 7
    · rw [h7] at hl; simp [kidsLo] at hl; omega
    · by_cases h10 : t.k = 10
      · rw [h10] at hl; simp [kidsLo] at hl; omega
      · simp [h4, h7, h10, hasB] at hb

theorem str_one {w : World} {n : ByteArray} {b : Nat} (hn : n.size ≤ maxLen) (h : w.cell? ⟨b, 0, none⟩ = some (.string n)) : strSl w (some ⟨b, 0, none⟩) 1 [n] := by
  refine ⟨by simp, by decide, .inr ⟨b, 0, rfl, fun i hi => ?_⟩⟩
  obtain rfl : i = 0 := by simpa using hi
  refine ⟨fun j v hv => ?_, hn⟩
  match j, hv with
  | 0, hv => simp [sE] at hv; subst hv; simpa using h
theorem str_nil (w : World) : strSl w none 0 [] := ⟨Nat.le_refl _, by decide, .inl rfl⟩

def BndGw (ns : List ByteArray) (w : World) (e : Ending) (w' : World) : Prop := ∃ (a : Option Addr) (c n : Nat), e = .returned (.slice a n c) ∧ ns.length = n ∧ strSl w' a c ns ∧ Gw w w'

set_option maxHeartbeats 1000000 in
theorem spec_binds (u : LM) (w : World) (b o i : Nat) (h : tmAt w b o u) : Calls Tryd.prog 74 #[.pointer (some ⟨b, o, none⟩), .int .i64 i] w (BndGw (bndI u.k i u.n u.ns) w) := by
  obtain ⟨p0, p1, p2, p3, p4, p5, p6, p7⟩ := h.c
  have hn := h.2.nm
  have HN := Lib.hid h.2.nms
  have HS := Lib.hid hn
  clear h hn
  have ONE : ∀ w2 B, Gw w w2 → w2.cell? ⟨B, 0, none⟩ = some (.string u.n) → (u.k = 4 ∨ (u.k = 7 ∧ i = 1)) → BndGw (bndI u.k i u.n u.ns) w (.returned (.slice (some ⟨B, 0, none⟩) 1 1)) w2 := fun w2 B g hc hk => ⟨_, _, _, rfl, by unfold bndI; rw [if_pos hk]; rfl, by unfold bndI; rw [if_pos hk]; exact str_one HS.out hc, g⟩
  have NIL : ¬ (u.k = 4 ∨ (u.k = 7 ∧ i = 1)) → ¬ u.k = 10 → BndGw (bndI u.k i u.n u.ns) w (.returned (.slice none 0 0)) w := fun h1 h2 => ⟨_, _, _, rfl, by unfold bndI; rw [if_neg h1, if_neg h2]; rfl, by unfold bndI; rw [if_neg h1, if_neg h2]; exact str_nil w, Gw.refl w⟩
  have TEN : u.k = 10 → BndGw (bndI u.k i u.n u.ns) w (.returned (.slice u.na u.ns.length u.nc)) w := fun h2 => ⟨_, _, _, rfl, by unfold bndI; rw [if_neg (by omega), if_pos h2], by unfold bndI; rw [if_neg (by omega), if_pos h2]; exact HN.out, Gw.refl w⟩
  have ONE := Lib.hid ONE
  have NIL := Lib.hid NIL
  have TEN := Lib.hid TEN
  by_cases h4 : u.k = 4
  · have q4 : (u.k == 4) = true := by simpa using h4
    have H4 := Lib.hid h4
    clear h4
    go_enter Tryd.func74, Tryd.ntmps74
    go_wp2_with fail
    go_ret
    exact ONE.out _ _ ((Gw.refl w).alloc _) (cell_of_row _ _ 0 _ _ _ (heap_alloc_new w _)) (.inl H4.out)
  · have q4 : (u.k == 4) = false := by simpa using h4
    have H4 := Lib.hid h4
    clear h4
    by_cases h7 : u.k = 7
    · have q7 : (u.k == 7) = true := by simpa using h7
      have q10 : (u.k == 10) = false := by rw [h7]; rfl
      have H7 := Lib.hid h7
      clear h7
      by_cases h1 : i = 1
      · subst h1
        go_enter Tryd.func74, Tryd.ntmps74
        go_wp2_with fail
        go_ret
        exact ONE.out _ _ ((Gw.refl w).alloc _) (cell_of_row _ _ 0 _ _ _ (heap_alloc_new w _)) (by first | exact .inr ⟨H7.out, trivial⟩ | exact .inr H7.out)
      · have q1 : ((i : Int) == 1) = false := by simp; omega
        have H1 := Lib.hid h1
        clear h1
        go_enter Tryd.func74, Tryd.ntmps74
        go_wp2_with fail
        go_ret
        exact NIL.out (fun e => by have := H4.out; have := H1.out; omega) (by have := H7.out; omega)
    · have q7 : (u.k == 7) = false := by simpa using h7
      have H7 := Lib.hid h7
      clear h7
      by_cases h10 : u.k = 10
      · have q10 : (u.k == 10) = true := by simpa using h10
        have H10 := Lib.hid h10
        clear h10
        go_enter Tryd.func74, Tryd.ntmps74
        go_wp2_with fail
        go_ret
        exact TEN.out H10.out
      · have q10 : (u.k == 10) = false := by simpa using h10
        have H10 := Lib.hid h10
        clear h10
        go_enter Tryd.func74, Tryd.ntmps74
        go_wp2_with fail
        go_ret
        exact NIL.out (fun e => by have := H4.out; have := H7.out; omega) H10.out

set_option maxHeartbeats 1000000 in
theorem impl_bnd (u : LM) (w : World) (h : u.Ok w) : Calls Tryd.prog 104 #[u.val] w (BndGw (bnd u.k u.n u.ns) w) := by
  have g0 := (Gw.refl w).alloc (.cells #[.int .i64 u.k, .int .i64 u.m, .string u.n, .int .i64 u.t.k, .string u.t.n, .slice u.t.a u.t.ks.length u.t.cap, .slice u.na u.ns.length u.nc, .slice u.a u.ks.length u.cap] 50)
  have BX := Lib.hid (BoxM.new w u 50)
  have HN := Lib.hid (h.grow g0).nms
  have HS := Lib.hid h.nm
  have G := Lib.hid g0
  clear h g0
  have ONE : ∀ w2 B, Gw w w2 → w2.cell? ⟨B, 0, none⟩ = some (.string u.n) → (u.k = 4 ∨ u.k = 7) → BndGw (bnd u.k u.n u.ns) w (.returned (.slice (some ⟨B, 0, none⟩) 1 1)) w2 := fun w2 B g hc hk => ⟨_, _, _, rfl, by unfold bnd; rw [if_pos hk]; rfl, by unfold bnd; rw [if_pos hk]; exact str_one HS.out hc, g⟩
  have NIL : ∀ w2, Gw w w2 → ¬ (u.k = 4 ∨ u.k = 7) → ¬ u.k = 10 → BndGw (bnd u.k u.n u.ns) w (.returned (.slice none 0 0)) w2 := fun w2 g h1 h2 => ⟨_, _, _, rfl, by unfold bnd; rw [if_neg h1, if_neg h2]; rfl, by unfold bnd; rw [if_neg h1, if_neg h2]; exact str_nil w2, g⟩
  have TEN : ∀ w2, Gw w w2 → strSl w2 u.na u.nc u.ns → u.k = 10 → BndGw (bnd u.k u.n u.ns) w (.returned (.slice u.na u.ns.length u.nc)) w2 := fun w2 g hs h2 => ⟨_, _, _, rfl, by unfold bnd; rw [if_neg (by omega), if_pos h2], by unfold bnd; rw [if_neg (by omega), if_pos h2]; exact hs, g⟩
  have ONE := Lib.hid ONE
  have NIL := Lib.hid NIL
  have TEN := Lib.hid TEN
  go_enter Tryd.func104, Tryd.ntmps104
  go_upto_region 1 with (fail)
  generalize w.alloc (.cells #[.int .i64 u.k, .int .i64 u.m, .string u.n, .int .i64 u.t.k, .string u.t.n, .slice u.t.a u.t.ks.length u.t.cap, .slice u.na u.ns.length u.nc, .slice u.a u.ks.length u.cap] 50) = w1 at *
  obtain ⟨p0, p1, p2, p3, p4, p5, p6, p7⟩ := BX.out.c
  by_cases h4 : u.k = 4
  · have q4 : (u.k == 4) = true := by simpa using h4
    have H4 := Lib.hid h4
    clear h4
    go_wp2_with fail
    go_ret
    exact ONE.out _ _ (G.out.trans ((Gw.refl w1).alloc _)) (cell_of_row _ _ 0 _ _ _ (heap_alloc_new w1 _)) (.inl H4.out)
  · have q4 : (u.k == 4) = false := by simpa using h4
    have H4 := Lib.hid h4
    clear h4
    by_cases h7 : u.k = 7
    · have q7 : (u.k == 7) = true := by simpa using h7
      have H7 := Lib.hid h7
      clear h7
      go_wp2_with fail
      go_ret
      exact ONE.out _ _ (G.out.trans ((Gw.refl w1).alloc _)) (cell_of_row _ _ 0 _ _ _ (heap_alloc_new w1 _)) (.inr H7.out)
    · have q7 : (u.k == 7) = false := by simpa using h7
      have H7 := Lib.hid h7
      clear h7
      by_cases h10 : u.k = 10
      · have q10 : (u.k == 10) = true := by simpa using h10
        have H10 := Lib.hid h10
        clear h10
        go_wp2_with fail
        go_ret
        exact TEN.out _ G.out HN.out H10.out
      · have q10 : (u.k == 10) = false := by simpa using h10
        have H10 := Lib.hid h10
        clear h10
        go_wp2_with fail
        go_ret
        exact NIL.out _ G.out (fun e => by have := H4.out; have := H7.out; omega) H10.out

set_option maxHeartbeats 1000000 in
theorem impl_kidsOut (u : LM) (nm : ByteArray) (w : World) (h : u.Ok w) (c : Bool) (hok : u.tm.ok c = true) : Calls Tryd.prog 79 #[u.val, .string nm] w fun e w' =>
    ∃ B, e = .returned (.func (.func 128) #[] #[.pointer (some ⟨B, 0, none⟩)]) ∧ w.heap.size ≤ B ∧ B < w'.heap.size ∧ w'.cell? ⟨B, 0, none⟩ = some (.slice u.a (visC u.k u.n u.ns nm u.ks.length) u.cap) ∧ Gw w w' := by
  have hlen : u.ks.length ≤ 9223372036854775807 := Nat.le_trans h.kids.1 h.kids.2.1
  have hcap : u.ks.length ≤ u.cap := h.kids.1
  have hcm : u.cap ≤ 9223372036854775807 := h.kids.2.1
  have g0 := (Gw.refl w).alloc (.cells #[.int .i64 u.k, .int .i64 u.m, .string u.n, .int .i64 u.t.k, .string u.t.n, .slice u.t.a u.t.ks.length u.t.cap, .slice u.na u.ns.length u.nc, .slice u.a u.ks.length u.cap] 50)
  have BX := Lib.hid (BoxM.new w u 50)
  have KEY := Lib.hid (impl_bnd u _ (h.grow g0))
  have HK := Lib.hid (h.kids.2.2)
  have G := Lib.hid g0
  have POS := Lib.hid (fun hb => bnd_pos (nm := nm) hok (by rw [LM.tm_k, LM.tm_n, LM.tm_ns]; exact hb))
  clear h g0
  go_enter Tryd.func79, Tryd.ntmps79
  go_upto_region 1 with (fail)
  generalize w.alloc (.cells #[.int .i64 u.k, .int .i64 u.m, .string u.n, .int .i64 u.t.k, .string u.t.n, .slice u.t.a u.t.ks.length u.t.cap, .slice u.na u.ns.length u.nc, .slice u.a u.ks.length u.cap] 50) = w1 at *
  obtain ⟨p0, p1, p2, p3, p4, p5, p6, p7⟩ := BX.out.c
  go_wp2_with fail
  refine KEY.out.mono ?_
  rintro e w2 ⟨a, cc, n, rfl, hn, hs, g2⟩
  have G2 := Lib.hid (G.out.trans g2)
  have HN := Lib.hid hn
  have KC := Lib.hid (impl_containsS _ n hn nm w2 a cc hs)
  clear g2 hn hs p0 p1 p2 p3 p4 p5 p6 p7
  go_wp2_with fail
  refine KC.out.mono ?_
  rintro e w3 ⟨rfl, g3⟩
  have G3 := Lib.hid (G2.out.trans g3)
  clear g3
  cases hb : hasB (bnd u.k u.n u.ns) nm with
  | false =>
    have V := Lib.hid (show visC u.k u.n u.ns nm u.ks.length = u.ks.length by unfold visC; rw [hb]; rfl)
    clear hb
    go_wp2_with fail
    refine (impl_allT _ _ _ _).mono ?_
    rintro e w4 ⟨rfl, rfl⟩
    go_wp2_with fail
    go_ret
    exact ⟨_, rfl, G3.out.size, by simp, by rw [V.out]; exact cell_of_row _ _ 0 _ _ _ (heap_alloc_new w3 _), G3.out.alloc _⟩
  | true =>
    have V := Lib.hid (show visC u.k u.n u.ns nm u.ks.length = u.ks.length - 1 by unfold visC; rw [hb]; rfl)
    have hp : 1 ≤ u.ks.length := by have := POS.out hb; rw [LM.tm_len] at this; exact this
    obtain ⟨bk, ok, ha, _⟩ := HK.out.resolve_left (fun e => by rw [e] at hp; simp at hp)
    have HA := Lib.hid ha
    rw [ha]
    obtain ⟨m, hm⟩ : ∃ m, u.ks.length = m + 1 := ⟨u.ks.length - 1, by omega⟩
    have V2 := Lib.hid (show visC u.k u.n u.ns nm u.ks.length = m by rw [V.out]; omega)
    have HM := Lib.hid hm
    rw [hm] at hlen hcap hp ⊢
    have e1 : ((m + 1 : Nat) : Int) - 1 = m := by omega
    clear hb ha hm V
    go_wp2_with fail
    refine (impl_allT _ _ _ _).mono ?_
    rintro e w4 ⟨rfl, rfl⟩
    go_wp2_with fail
    go_ret
    exact ⟨_, rfl, G3.out.size, by simp, by rw [V2.out, HA.out]; exact cell_of_row _ _ 0 _ _ _ (heap_alloc_new w3 _), G3.out.alloc _⟩

theorem impl_isBranch (u : LM) (w : World) (i : Nat) : Calls Tryd.prog 80 #[u.val, .int .i64 i] w (BoolGw ((u.k == 9 || u.k == 11) && decide (0 < i)) w) := by
  have G := Lib.hid ((Gw.refl w).alloc (.cells #[.int .i64 u.k, .int .i64 u.m, .string u.n, .int .i64 u.t.k, .string u.t.n, .slice u.t.a u.t.ks.length u.t.cap, .slice u.na u.ns.length u.nc, .slice u.a u.ks.length u.cap] 50))
  cases h9 : (u.k == 9) with
  | true =>
    go_enter Tryd.func80, Tryd.ntmps80
    go_wp2_with fail
    go_ret
    exact ⟨ret_b (by simp), G.out⟩
  | false =>
    cases h11 : (u.k == 11) with
    | true =>
      go_enter Tryd.func80, Tryd.ntmps80
      go_wp2_with fail
      go_ret
      exact ⟨ret_b (by simp), G.out⟩
    | false =>
      go_enter Tryd.func80, Tryd.ntmps80
      go_wp2_with fail
      go_ret
      exact ⟨ret_b (by simp), G.out⟩

end Go.Proofs.YtkfplnnncfkjfaaDoor.Con
