/-
  Contracts of Growth, PairClass and FirstOfPair (the model's and the program's). Condition: the program's tables read as its text lays them.
-/
import Derived.Test.YtgobiejokgcmmaaDoorAgI
import Derived.Deep.Cut
namespace Go.Proofs.YtgobiejokgcmmaaDoor.Con
open Go.RowKit
set_option linter.unusedVariables false

def gAt (c j : Nat) : Int := (growL.getD c []).getD j 0
theorem grow_at (m : Nat) (h1 : 1 ≤ m) (h7 : m ≤ 7) (p : Int) : growV m p = if inV p (gAt m 0) (gAt m 1) = true then some (p + gAt m 2) else none := by
  have one : ∀ p a : Int, (if p = 0 then some a else none) = if inV p 0 0 = true then some (p + a) else none := fun p a => by
    by_cases z : p = 0
    · subst z; simp [inV]
    · rw [if_neg z, if_neg (by unfold inV; simp; omega)]
  obtain rfl | rfl | rfl | rfl | rfl | rfl | rfl : m = 1 ∨ m = 2 ∨ m = 3 ∨ m = 4 ∨ m = 5 ∨ m = 6 ∨ m = 7 := by omega
  · exact one p (-2)
  · exact one p (-2)
  · show (if inV p 0 3 = true then some p else none) = if inV p 0 3 = true then some (p + 0) else none
    rw [Int.add_zero]
  · rfl
  · exact one p (-1)
  · rfl
  · rfl
theorem grow_none (c p : Int) (h : ¬ (1 ≤ c ∧ c ≤ 7)) : growV c p = none := by
  unfold growV
  rw [if_neg (by omega), if_neg (by omega), if_neg (by omega), if_neg (by omega), if_neg (by omega), if_neg (by omega)]
def GrowR (o : Option Int) (e : Ending) : Prop := e = .returned (.tuple #[.int .i64 (o.getD 0), .int .i64 (if o = none then 2 else 0)])
theorem growR_some {o : Option Int} {a : Int} (h : o = some a) : GrowR o (.returned (.tuple #[.int .i64 a, .int .i64 0])) := by subst h; rfl
theorem growR_none {o : Option Int} (h : o = none) : GrowR o (.returned (.tuple #[.int .i64 0, .int .i64 2])) := by subst h; rfl

theorem spec_grow (c p : Int) (w : World) : Calls Tryd.prog 23 #[.int .i64 c, .int .i64 p] w fun e w' => GrowR (growV c p) e ∧ w = w' := by
  by_cases e1 : c = 1
  · subst e1
    have hg := grow_at 1 (by decide) (by decide) p
    by_cases hp : 0 ≤ p ∧ p ≤ 0
    · have d : inV p 0 0 = true := decide_eq_true hp
      have F := Lib.hid (show growV 1 p = some (p + (-2)) from by rw [if_pos (show inV p (gAt 1 0) (gAt 1 1) = true from d)] at hg; exact hg)
      obtain ⟨p0, p1⟩ := hp
      clear hg
      obtain rfl : p = 0 := by omega
      go_enter Tryd.func23, Tryd.ntmps23
      go_wp2_with (go_at_call 31; refine (specIn _ _ _ _).mono ?_; rintro e w' ⟨rfl, rfl⟩)
      go_ret2
      exact ⟨growR_some (by rw [F.out]; first | rfl | (congr 1; omega)), rfl⟩
    · have d : inV p 0 0 = false := decide_eq_false hp
      have F := Lib.hid (show growV 1 p = none from by rw [if_neg (show ¬ inV p (gAt 1 0) (gAt 1 1) = true from by rw [show inV p (gAt 1 0) (gAt 1 1) = false from d]; decide)] at hg; exact hg)
      clear hp hg
      go_enter Tryd.func23, Tryd.ntmps23
      go_wp2_with (go_at_call 31; refine (specIn _ _ _ _).mono ?_; rintro e w' ⟨rfl, rfl⟩)
      go_ret2
      exact ⟨growR_none F.out, rfl⟩
  by_cases e2 : c = 2
  · subst e2
    have hg := grow_at 2 (by decide) (by decide) p
    by_cases hp : 0 ≤ p ∧ p ≤ 0
    · have d : inV p 0 0 = true := decide_eq_true hp
      have F := Lib.hid (show growV 2 p = some (p + (-2)) from by rw [if_pos (show inV p (gAt 2 0) (gAt 2 1) = true from d)] at hg; exact hg)
      obtain ⟨p0, p1⟩ := hp
      clear hg
      obtain rfl : p = 0 := by omega
      go_enter Tryd.func23, Tryd.ntmps23
      go_wp2_with (go_at_call 31; refine (specIn _ _ _ _).mono ?_; rintro e w' ⟨rfl, rfl⟩)
      go_ret2
      exact ⟨growR_some (by rw [F.out]; first | rfl | (congr 1; omega)), rfl⟩
    · have d : inV p 0 0 = false := decide_eq_false hp
      have F := Lib.hid (show growV 2 p = none from by rw [if_neg (show ¬ inV p (gAt 2 0) (gAt 2 1) = true from by rw [show inV p (gAt 2 0) (gAt 2 1) = false from d]; decide)] at hg; exact hg)
      clear hp hg
      go_enter Tryd.func23, Tryd.ntmps23
      go_wp2_with (go_at_call 31; refine (specIn _ _ _ _).mono ?_; rintro e w' ⟨rfl, rfl⟩)
      go_ret2
      exact ⟨growR_none F.out, rfl⟩
  by_cases e3 : c = 3
  · subst e3
    have hg := grow_at 3 (by decide) (by decide) p
    by_cases hp : 0 ≤ p ∧ p ≤ 3
    · have d : inV p 0 3 = true := decide_eq_true hp
      have F := Lib.hid (show growV 3 p = some (p + (0)) from by rw [if_pos (show inV p (gAt 3 0) (gAt 3 1) = true from d)] at hg; exact hg)
      obtain ⟨p0, p1⟩ := hp
      clear hg
      
      go_enter Tryd.func23, Tryd.ntmps23
      go_wp2_with (go_at_call 31; refine (specIn _ _ _ _).mono ?_; rintro e w' ⟨rfl, rfl⟩)
      go_ret2
      exact ⟨growR_some (by rw [F.out]; first | rfl | (congr 1; omega)), rfl⟩
    · have d : inV p 0 3 = false := decide_eq_false hp
      have F := Lib.hid (show growV 3 p = none from by rw [if_neg (show ¬ inV p (gAt 3 0) (gAt 3 1) = true from by rw [show inV p (gAt 3 0) (gAt 3 1) = false from d]; decide)] at hg; exact hg)
      clear hp hg
      go_enter Tryd.func23, Tryd.ntmps23
      go_wp2_with (go_at_call 31; refine (specIn _ _ _ _).mono ?_; rintro e w' ⟨rfl, rfl⟩)
      go_ret2
      exact ⟨growR_none F.out, rfl⟩
  by_cases e4 : c = 4
  · subst e4
    have hg := grow_at 4 (by decide) (by decide) p
    by_cases hp : 0 ≤ p ∧ p ≤ 3
    · have d : inV p 0 3 = true := decide_eq_true hp
      have F := Lib.hid (show growV 4 p = some (p + (-2)) from by rw [if_pos (show inV p (gAt 4 0) (gAt 4 1) = true from d)] at hg; exact hg)
      obtain ⟨p0, p1⟩ := hp
      clear hg
      
      go_enter Tryd.func23, Tryd.ntmps23
      go_wp2_with (go_at_call 31; refine (specIn _ _ _ _).mono ?_; rintro e w' ⟨rfl, rfl⟩)
      go_ret2
      exact ⟨growR_some (by rw [F.out]; first | rfl | (congr 1; omega)), rfl⟩
    · have d : inV p 0 3 = false := decide_eq_false hp
      have F := Lib.hid (show growV 4 p = none from by rw [if_neg (show ¬ inV p (gAt 4 0) (gAt 4 1) = true from by rw [show inV p (gAt 4 0) (gAt 4 1) = false from d]; decide)] at hg; exact hg)
      clear hp hg
      go_enter Tryd.func23, Tryd.ntmps23
      go_wp2_with (go_at_call 31; refine (specIn _ _ _ _).mono ?_; rintro e w' ⟨rfl, rfl⟩)
      go_ret2
      exact ⟨growR_none F.out, rfl⟩
  by_cases e5 : c = 5
  · subst e5
    have hg := grow_at 5 (by decide) (by decide) p
    by_cases hp : 0 ≤ p ∧ p ≤ 0
    · have d : inV p 0 0 = true := decide_eq_true hp
      have F := Lib.hid (show growV 5 p = some (p + (-1)) from by rw [if_pos (show inV p (gAt 5 0) (gAt 5 1) = true from d)] at hg; exact hg)
      obtain ⟨p0, p1⟩ := hp
      clear hg
      obtain rfl : p = 0 := by omega
      go_enter Tryd.func23, Tryd.ntmps23
      go_wp2_with (go_at_call 31; refine (specIn _ _ _ _).mono ?_; rintro e w' ⟨rfl, rfl⟩)
      go_ret2
      exact ⟨growR_some (by rw [F.out]; first | rfl | (congr 1; omega)), rfl⟩
    · have d : inV p 0 0 = false := decide_eq_false hp
      have F := Lib.hid (show growV 5 p = none from by rw [if_neg (show ¬ inV p (gAt 5 0) (gAt 5 1) = true from by rw [show inV p (gAt 5 0) (gAt 5 1) = false from d]; decide)] at hg; exact hg)
      clear hp hg
      go_enter Tryd.func23, Tryd.ntmps23
      go_wp2_with (go_at_call 31; refine (specIn _ _ _ _).mono ?_; rintro e w' ⟨rfl, rfl⟩)
      go_ret2
      exact ⟨growR_none F.out, rfl⟩
  by_cases e6 : c = 6
  · subst e6
    have hg := grow_at 6 (by decide) (by decide) p
    by_cases hp : 0 ≤ p ∧ p ≤ 3
    · have d : inV p 0 3 = true := decide_eq_true hp
      have F := Lib.hid (show growV 6 p = some (p + (-1)) from by rw [if_pos (show inV p (gAt 6 0) (gAt 6 1) = true from d)] at hg; exact hg)
      obtain ⟨p0, p1⟩ := hp
      clear hg
      
      go_enter Tryd.func23, Tryd.ntmps23
      go_wp2_with (go_at_call 31; refine (specIn _ _ _ _).mono ?_; rintro e w' ⟨rfl, rfl⟩)
      go_ret2
      exact ⟨growR_some (by rw [F.out]; first | rfl | (congr 1; omega)), rfl⟩
    · have d : inV p 0 3 = false := decide_eq_false hp
      have F := Lib.hid (show growV 6 p = none from by rw [if_neg (show ¬ inV p (gAt 6 0) (gAt 6 1) = true from by rw [show inV p (gAt 6 0) (gAt 6 1) = false from d]; decide)] at hg; exact hg)
      clear hp hg
      go_enter Tryd.func23, Tryd.ntmps23
      go_wp2_with (go_at_call 31; refine (specIn _ _ _ _).mono ?_; rintro e w' ⟨rfl, rfl⟩)
      go_ret2
      exact ⟨growR_none F.out, rfl⟩
  by_cases e7 : c = 7
  · subst e7
    have hg := grow_at 7 (by decide) (by decide) p
    by_cases hp : 2 ≤ p ∧ p ≤ 600
    · have d : inV p 2 600 = true := decide_eq_true hp
      have F := Lib.hid (show growV 7 p = some (p + (-2)) from by rw [if_pos (show inV p (gAt 7 0) (gAt 7 1) = true from d)] at hg; exact hg)
      obtain ⟨p0, p1⟩ := hp
      clear hg
      
      go_enter Tryd.func23, Tryd.ntmps23
      go_wp2_with (go_at_call 31; refine (specIn _ _ _ _).mono ?_; rintro e w' ⟨rfl, rfl⟩)
      go_ret2
      exact ⟨growR_some (by rw [F.out]; first | rfl | (congr 1; omega)), rfl⟩
    · have d : inV p 2 600 = false := decide_eq_false hp
      have F := Lib.hid (show growV 7 p = none from by rw [if_neg (show ¬ inV p (gAt 7 0) (gAt 7 1) = true from by rw [show inV p (gAt 7 0) (gAt 7 1) = false from d]; decide)] at hg; exact hg)
      clear hp hg
      go_enter Tryd.func23, Tryd.ntmps23
      go_wp2_with (go_at_call 31; refine (specIn _ _ _ _).mono ?_; rintro e w' ⟨rfl, rfl⟩)
      go_ret2
      exact ⟨growR_none F.out, rfl⟩
  have F := Lib.hid (grow_none c p (by omega))
  have b1 : (c == 1) = false := by simpa using e1
  have b2 : (c == 2) = false := by simpa using e2
  have b3 : (c == 3) = false := by simpa using e3
  have b4 : (c == 4) = false := by simpa using e4
  have b5 : (c == 5) = false := by simpa using e5
  have b6 : (c == 6) = false := by simpa using e6
  have b7 : (c == 7) = false := by simpa using e7
  clear e1 e2 e3 e4 e5 e6 e7
  go_enter Tryd.func23, Tryd.ntmps23
  go_wp2_with (go_at_call 31; refine (specIn _ _ _ _).mono ?_; rintro e w' ⟨rfl, rfl⟩)
  go_ret2
  exact ⟨growR_none F.out, rfl⟩

/-- The table of growth lies in block g. -/
def GrAt (g : Nat) (w : World) : Prop := g < w.heap.size ∧ ∀ i j v, (growL.getD i [])[j]? = some v → w.cell? ⟨g, i * 3 + j, none⟩ = some (.int .i64 v)
theorem GrAt.grow {g : Nat} {w w' : World} (h : GrAt g w) (gr : Gw w w') : GrAt g w' := ⟨Nat.lt_of_lt_of_le h.1 gr.size, fun i j v hv => gr.cell (h.2 i j v hv) h.1⟩
theorem gAt_in (m : Nat) (h : m < 8) : (growL.getD m [])[0]? = some (gAt m 0) ∧ (growL.getD m [])[1]? = some (gAt m 1) ∧ (growL.getD m [])[2]? = some (gAt m 2) ∧ 0 ≤ gAt m 0 ∧ gAt m 0 ≤ 2 ∧ 0 ≤ gAt m 1 ∧ gAt m 1 ≤ 600 ∧ -2 ≤ gAt m 2 ∧ gAt m 2 ≤ 0 := by
  have : ∀ m : Fin 8, (growL.getD m.val [])[0]? = some (gAt m.val 0) ∧ (growL.getD m.val [])[1]? = some (gAt m.val 1) ∧ (growL.getD m.val [])[2]? = some (gAt m.val 2) ∧ 0 ≤ gAt m.val 0 ∧ gAt m.val 0 ≤ 2 ∧ 0 ≤ gAt m.val 1 ∧ gAt m.val 1 ≤ 600 ∧ -2 ≤ gAt m.val 2 ∧ gAt m.val 2 ≤ 0 := by decide +kernel
  exact this ⟨m, h⟩

theorem impl_grow (c p : Int) (w : World) (hT : GrAt 2 w) : Calls Tryd.prog 24 #[.int .i64 c, .int .i64 p] w fun e w' => GrowR (growV c p) e ∧ Gw w w' := by
  by_cases hc : 1 ≤ c ∧ c ≤ 7
  · obtain ⟨m, rfl⟩ : ∃ m : Nat, c = m := ⟨c.toNat, by omega⟩
    have hg := grow_at m (by omega) (by omega) p
    obtain ⟨i0, i1, i2, l0, l1, h0, h1, a0, a1⟩ := gAt_in m (by omega)
    have c0 := hT.2 m 0 _ i0
    have c1 := hT.2 m 1 _ i1
    have c2 := hT.2 m 2 _ i2
    have hb := hT.1
    obtain ⟨m1, m7⟩ := hc
    clear hT i0 i1 i2
    generalize gAt m 0 = lo at *
    generalize gAt m 1 = hi at *
    generalize gAt m 2 = ad at *
    rw [Nat.add_zero] at c0
    by_cases hp0 : lo ≤ p
    · by_cases hp1 : p ≤ hi
      · have F := Lib.hid (show growV m p = some (p + ad) from by rw [hg, if_pos (show inV p lo hi = true from decide_eq_true ⟨hp0, hp1⟩)])
        clear hg
        go_enter Tryd.func24, Tryd.ntmps24
        go_wp2_with fail
        go_ret2
        exact ⟨growR_some F.out, (Gw.refl _).alloc _⟩
      · have F := Lib.hid (show growV m p = none from by rw [hg, if_neg (by unfold inV; simp; omega)])
        clear hg
        go_enter Tryd.func24, Tryd.ntmps24
        go_wp2_with fail
        go_ret2
        exact ⟨growR_none F.out, (Gw.refl _).alloc _⟩
    · have F := Lib.hid (show growV m p = none from by rw [hg, if_neg (by unfold inV; simp; omega)])
      clear hg
      go_enter Tryd.func24, Tryd.ntmps24
      go_wp2_with fail
      go_ret2
      exact ⟨growR_none F.out, (Gw.refl _).alloc _⟩
  · have F := Lib.hid (grow_none c p hc)
    clear hT
    by_cases c1 : c < 1
    · clear hc
      go_enter Tryd.func24, Tryd.ntmps24
      go_wp2_with fail
      go_ret2
      exact ⟨growR_none F.out, Gw.refl _⟩
    · have c7 : c > 7 := by omega
      clear hc
      go_enter Tryd.func24, Tryd.ntmps24
      go_wp2_with fail
      go_ret2
      exact ⟨growR_none F.out, Gw.refl _⟩

theorem spec_okpair (ka la kb lb : Int) (w : World) : Calls Tryd.prog 34 #[.int .i64 ka, .int .i64 la, .int .i64 kb, .int .i64 lb] w fun e w' => e = .returned (.bool (okPV ka la && okPV kb lb)) ∧ w = w' := by
  cases ha : allowV ka la
  · have F := Lib.hid (show false = (okPV ka la && okPV kb lb) from by unfold okPV; rw [ha]; rfl)
    go_enter Tryd.func34, Tryd.ntmps34
    go_wp2_with (go_at_call 40; refine (spec_allow _ _ _).mono ?_; rintro e w' ⟨rfl, rfl⟩)
    go_ret
    exact ⟨ret_b F.out, rfl⟩
  · cases hb : allowV kb lb
    · have F := Lib.hid (show false = (okPV ka la && okPV kb lb) from by unfold okPV; rw [hb]; simp)
      go_enter Tryd.func34, Tryd.ntmps34
      go_wp2_with (go_at_call 40; refine (spec_allow _ _ _).mono ?_; rintro e w' ⟨rfl, rfl⟩)
      go_ret
      exact ⟨ret_b F.out, rfl⟩
    · cases h1 : (ka == 1)
      · have F := Lib.hid (show (kb != 1) = (okPV ka la && okPV kb lb) from by unfold okPV; rw [ha, hb, h1]; rfl)
        have h1' : (ka != 1) = true := by simpa using h1
        go_enter Tryd.func34, Tryd.ntmps34
        go_wp2_with (go_at_call 40; refine (spec_allow _ _ _).mono ?_; rintro e w' ⟨rfl, rfl⟩)
        go_ret
        exact ⟨ret_b F.out, rfl⟩
      · have F := Lib.hid (show false = (okPV ka la && okPV kb lb) from by unfold okPV; rw [h1]; simp)
        have h1' : (ka != 1) = false := by simpa using h1
        go_enter Tryd.func34, Tryd.ntmps34
        go_wp2_with (go_at_call 40; refine (spec_allow _ _ _).mono ?_; rintro e w' ⟨rfl, rfl⟩)
        go_ret
        exact ⟨ret_b F.out, rfl⟩

theorem spec_rule (ka la kb lb : Int) (w : World) : Calls Tryd.prog 35 #[.int .i64 ka, .int .i64 la, .int .i64 kb, .int .i64 lb] w fun e w' => e = .returned (.int .i64 (ruleV ka la kb lb)) ∧ w = w' := by
  by_cases a5 : ka = 5
  · have g5 : (ka == 5) = true := by simpa using a5
    have F := Lib.hid (show 4 = ruleV ka la kb lb from by unfold ruleV; rw [if_pos a5])
    clear a5
    go_enter Tryd.func35, Tryd.ntmps35
    go_wp2_with (first | (go_at_call 41; refine (spec_dup _ _ _ _).mono ?_; rintro e w' ⟨rfl, rfl⟩) | (go_at_call 42; refine (spec_cons _ _).mono ?_; rintro e w' ⟨rfl, rfl⟩))
    go_ret
    exact ⟨ret_i F.out, rfl⟩
  have g5 : (ka == 5) = false := by simpa using a5
  by_cases a4 : ka = 4
  · have g4 : (ka == 4) = true := by simpa using a4
    by_cases b4 : kb = 4
    · have f4 : (kb == 4) = true := by simpa using b4
      by_cases q : la = lb
      · have fq : (la == lb) = true := by simpa using q
        have F := Lib.hid (show 2 = ruleV ka la kb lb from by unfold ruleV; rw [if_neg a5, if_pos a4, if_pos ⟨b4, q⟩])
        clear a5 a4 b4 q
        go_enter Tryd.func35, Tryd.ntmps35
        go_wp2_with (first | (go_at_call 41; refine (spec_dup _ _ _ _).mono ?_; rintro e w' ⟨rfl, rfl⟩) | (go_at_call 42; refine (spec_cons _ _).mono ?_; rintro e w' ⟨rfl, rfl⟩))
        go_ret
        exact ⟨ret_i F.out, rfl⟩
      · have fq : (la == lb) = false := by simpa using q
        cases hd : dupV la kb lb
        · have F0 := True.intro
          have F := Lib.hid (show 0 = ruleV ka la kb lb from by unfold ruleV; rw [if_neg a5, if_pos a4, if_neg (fun z => q z.2), if_neg (by rw [hd]; decide)])
          clear a5 a4 b4 q
          go_enter Tryd.func35, Tryd.ntmps35
          go_wp2_with (first | (go_at_call 41; refine (spec_dup _ _ _ _).mono ?_; rintro e w' ⟨rfl, rfl⟩) | (go_at_call 42; refine (spec_cons _ _).mono ?_; rintro e w' ⟨rfl, rfl⟩))
          go_ret
          exact ⟨ret_i F.out, rfl⟩
        · have F0 := True.intro
          have F := Lib.hid (show 3 = ruleV ka la kb lb from by unfold ruleV; rw [if_neg a5, if_pos a4, if_neg (fun z => q z.2), if_pos hd])
          clear a5 a4 b4 q
          go_enter Tryd.func35, Tryd.ntmps35
          go_wp2_with (first | (go_at_call 41; refine (spec_dup _ _ _ _).mono ?_; rintro e w' ⟨rfl, rfl⟩) | (go_at_call 42; refine (spec_cons _ _).mono ?_; rintro e w' ⟨rfl, rfl⟩))
          go_ret
          exact ⟨ret_i F.out, rfl⟩
    · have f4 : (kb == 4) = false := by simpa using b4
      cases hd : dupV la kb lb
      · have F0 := True.intro
        have F := Lib.hid (show 0 = ruleV ka la kb lb from by unfold ruleV; rw [if_neg a5, if_pos a4, if_neg (fun z => b4 z.1), if_neg (by rw [hd]; decide)])
        clear a5 a4 b4
        go_enter Tryd.func35, Tryd.ntmps35
        go_wp2_with (first | (go_at_call 41; refine (spec_dup _ _ _ _).mono ?_; rintro e w' ⟨rfl, rfl⟩) | (go_at_call 42; refine (spec_cons _ _).mono ?_; rintro e w' ⟨rfl, rfl⟩))
        go_ret
        exact ⟨ret_i F.out, rfl⟩
      · have F0 := True.intro
        have F := Lib.hid (show 3 = ruleV ka la kb lb from by unfold ruleV; rw [if_neg a5, if_pos a4, if_neg (fun z => b4 z.1), if_pos hd])
        clear a5 a4 b4
        go_enter Tryd.func35, Tryd.ntmps35
        go_wp2_with (first | (go_at_call 41; refine (spec_dup _ _ _ _).mono ?_; rintro e w' ⟨rfl, rfl⟩) | (go_at_call 42; refine (spec_cons _ _).mono ?_; rintro e w' ⟨rfl, rfl⟩))
        go_ret
        exact ⟨ret_i F.out, rfl⟩
  have g4 : (ka == 4) = false := by simpa using a4
  by_cases a2 : ka = 2
  · have g2 : (ka == 2) = true := by simpa using a2
    by_cases b3 : kb = 3
    · have f3 : (kb == 3) = true := by simpa using b3
      by_cases q : la = lb
      · have fq : (la == lb) = true := by simpa using q
        have F := Lib.hid (show 1 = ruleV ka la kb lb from by unfold ruleV; rw [if_neg a5, if_neg a4, if_pos a2, if_pos ⟨b3, q⟩])
        clear a5 a4 a2 b3 q
        go_enter Tryd.func35, Tryd.ntmps35
        go_wp2_with (first | (go_at_call 41; refine (spec_dup _ _ _ _).mono ?_; rintro e w' ⟨rfl, rfl⟩) | (go_at_call 42; refine (spec_cons _ _).mono ?_; rintro e w' ⟨rfl, rfl⟩))
        go_ret
        exact ⟨ret_i F.out, rfl⟩
      · have fq : (la == lb) = false := by simpa using q
        have F := Lib.hid (show 0 = ruleV ka la kb lb from by unfold ruleV; rw [if_neg a5, if_neg a4, if_pos a2, if_neg (fun z => q z.2)])
        clear a5 a4 a2 b3 q
        go_enter Tryd.func35, Tryd.ntmps35
        go_wp2_with (first | (go_at_call 41; refine (spec_dup _ _ _ _).mono ?_; rintro e w' ⟨rfl, rfl⟩) | (go_at_call 42; refine (spec_cons _ _).mono ?_; rintro e w' ⟨rfl, rfl⟩))
        go_ret
        exact ⟨ret_i F.out, rfl⟩
    · have f3 : (kb == 3) = false := by simpa using b3
      have F := Lib.hid (show 0 = ruleV ka la kb lb from by unfold ruleV; rw [if_neg a5, if_neg a4, if_pos a2, if_neg (fun z => b3 z.1)])
      clear a5 a4 a2 b3
      go_enter Tryd.func35, Tryd.ntmps35
      go_wp2_with (first | (go_at_call 41; refine (spec_dup _ _ _ _).mono ?_; rintro e w' ⟨rfl, rfl⟩) | (go_at_call 42; refine (spec_cons _ _).mono ?_; rintro e w' ⟨rfl, rfl⟩))
      go_ret
      exact ⟨ret_i F.out, rfl⟩
  have g2 : (ka == 2) = false := by simpa using a2
  by_cases a6 : ka = 6
  · have g6 : (ka == 6) = true := by simpa using a6
    by_cases b7 : kb = 7
    · have f7 : (kb == 7) = true := by simpa using b7
      have F := Lib.hid (show 5 = ruleV ka la kb lb from by unfold ruleV; rw [if_neg a5, if_neg a4, if_neg a2, if_pos a6, if_pos (Or.inl b7)])
      clear a5 a4 a2 a6 b7
      go_enter Tryd.func35, Tryd.ntmps35
      go_wp2_with (first | (go_at_call 41; refine (spec_dup _ _ _ _).mono ?_; rintro e w' ⟨rfl, rfl⟩) | (go_at_call 42; refine (spec_cons _ _).mono ?_; rintro e w' ⟨rfl, rfl⟩))
      go_ret
      exact ⟨ret_i F.out, rfl⟩
    have f7 : (kb == 7) = false := by simpa using b7
    by_cases b8 : kb = 8
    · have f8 : (kb == 8) = true := by simpa using b8
      have F := Lib.hid (show 5 = ruleV ka la kb lb from by unfold ruleV; rw [if_neg a5, if_neg a4, if_neg a2, if_pos a6, if_pos (Or.inr b8)])
      clear a5 a4 a2 a6 b7 b8
      go_enter Tryd.func35, Tryd.ntmps35
      go_wp2_with (first | (go_at_call 41; refine (spec_dup _ _ _ _).mono ?_; rintro e w' ⟨rfl, rfl⟩) | (go_at_call 42; refine (spec_cons _ _).mono ?_; rintro e w' ⟨rfl, rfl⟩))
      go_ret
      exact ⟨ret_i F.out, rfl⟩
    have f8 : (kb == 8) = false := by simpa using b8
    by_cases b11 : kb = 11
    · have f11 : (kb == 11) = true := by simpa using b11
      have F := Lib.hid (show 6 = ruleV ka la kb lb from by unfold ruleV; rw [if_neg a5, if_neg a4, if_neg a2, if_pos a6, if_neg (fun z => z.elim b7 b8), if_pos b11])
      clear a5 a4 a2 a6 b7 b8 b11
      go_enter Tryd.func35, Tryd.ntmps35
      go_wp2_with (first | (go_at_call 41; refine (spec_dup _ _ _ _).mono ?_; rintro e w' ⟨rfl, rfl⟩) | (go_at_call 42; refine (spec_cons _ _).mono ?_; rintro e w' ⟨rfl, rfl⟩))
      go_ret
      exact ⟨ret_i F.out, rfl⟩
    · have f11 : (kb == 11) = false := by simpa using b11
      have F := Lib.hid (show 0 = ruleV ka la kb lb from by unfold ruleV; rw [if_neg a5, if_neg a4, if_neg a2, if_pos a6, if_neg (fun z => z.elim b7 b8), if_neg b11])
      clear a5 a4 a2 a6 b7 b8 b11
      go_enter Tryd.func35, Tryd.ntmps35
      go_wp2_with (first | (go_at_call 41; refine (spec_dup _ _ _ _).mono ?_; rintro e w' ⟨rfl, rfl⟩) | (go_at_call 42; refine (spec_cons _ _).mono ?_; rintro e w' ⟨rfl, rfl⟩))
      go_ret
      exact ⟨ret_i F.out, rfl⟩
  have g6 : (ka == 6) = false := by simpa using a6
  by_cases a9 : ka = 9
  · have g9 : (ka == 9) = true := by simpa using a9
    by_cases b10 : kb = 10
    · have f10 : (kb == 10) = true := by simpa using b10
      have F := Lib.hid (show 6 = ruleV ka la kb lb from by unfold ruleV; rw [if_neg a5, if_neg a4, if_neg a2, if_neg a6, if_pos a9, if_pos b10])
      clear a5 a4 a2 a6 a9 b10
      go_enter Tryd.func35, Tryd.ntmps35
      go_wp2_with (first | (go_at_call 41; refine (spec_dup _ _ _ _).mono ?_; rintro e w' ⟨rfl, rfl⟩) | (go_at_call 42; refine (spec_cons _ _).mono ?_; rintro e w' ⟨rfl, rfl⟩))
      go_ret
      exact ⟨ret_i F.out, rfl⟩
    · have f10 : (kb == 10) = false := by simpa using b10
      have F := Lib.hid (show 0 = ruleV ka la kb lb from by unfold ruleV; rw [if_neg a5, if_neg a4, if_neg a2, if_neg a6, if_pos a9, if_neg b10])
      clear a5 a4 a2 a6 a9 b10
      go_enter Tryd.func35, Tryd.ntmps35
      go_wp2_with (first | (go_at_call 41; refine (spec_dup _ _ _ _).mono ?_; rintro e w' ⟨rfl, rfl⟩) | (go_at_call 42; refine (spec_cons _ _).mono ?_; rintro e w' ⟨rfl, rfl⟩))
      go_ret
      exact ⟨ret_i F.out, rfl⟩
  have g9 : (ka == 9) = false := by simpa using a9
  by_cases a12 : ka = 12
  · have g12 : (ka == 12) = true := by simpa using a12
    cases hc : consV kb
    · have F0 := True.intro
      have F := Lib.hid (show 0 = ruleV ka la kb lb from by unfold ruleV; rw [if_neg a5, if_neg a4, if_neg a2, if_neg a6, if_neg a9, if_pos a12, if_neg (by rw [hc]; decide)])
      clear a5 a4 a2 a6 a9 a12
      go_enter Tryd.func35, Tryd.ntmps35
      go_wp2_with (first | (go_at_call 41; refine (spec_dup _ _ _ _).mono ?_; rintro e w' ⟨rfl, rfl⟩) | (go_at_call 42; refine (spec_cons _ _).mono ?_; rintro e w' ⟨rfl, rfl⟩))
      go_ret
      exact ⟨ret_i F.out, rfl⟩
    · have F0 := True.intro
      have F := Lib.hid (show 7 = ruleV ka la kb lb from by unfold ruleV; rw [if_neg a5, if_neg a4, if_neg a2, if_neg a6, if_neg a9, if_pos a12, if_pos hc])
      clear a5 a4 a2 a6 a9 a12
      go_enter Tryd.func35, Tryd.ntmps35
      go_wp2_with (first | (go_at_call 41; refine (spec_dup _ _ _ _).mono ?_; rintro e w' ⟨rfl, rfl⟩) | (go_at_call 42; refine (spec_cons _ _).mono ?_; rintro e w' ⟨rfl, rfl⟩))
      go_ret
      exact ⟨ret_i F.out, rfl⟩
  have g12 : (ka == 12) = false := by simpa using a12
  have F := Lib.hid (show 0 = ruleV ka la kb lb from by unfold ruleV; rw [if_neg a5, if_neg a4, if_neg a2, if_neg a6, if_neg a9, if_neg a12])
  clear a5 a4 a2 a6 a9 a12
  go_enter Tryd.func35, Tryd.ntmps35
  go_wp2_with (first | (go_at_call 41; refine (spec_dup _ _ _ _).mono ?_; rintro e w' ⟨rfl, rfl⟩) | (go_at_call 42; refine (spec_cons _ _).mono ?_; rintro e w' ⟨rfl, rfl⟩))
  go_ret
  exact ⟨ret_i F.out, rfl⟩

end Go.Proofs.YtgobiejokgcmmaaDoor.Con
