/-
  What the law FnPairTable needs: the class of a pair does not hang on the order, both rules hold only for two equal agents, two fans; and the model's draws of pairs. Condition of the draws: fewer than a million of them.
-/
import Derived.Test.YtgobiejokgcmmaaDoorAgQ
import Derived.Test.YtgobiejokgcmmaaDoorSrc
namespace Go.Proofs.YtgobiejokgcmmaaDoor.Con
open Go.RowKit
set_option linter.unusedVariables false
set_option linter.unusedSimpArgs false

def bothB (ka kb : Nat) (q d1 d2 : Bool) : Bool :=
  !(decide (2 ≤ ka) && decide (2 ≤ kb) && needD kb d1 && needD ka d2 && !(ruleF ka kb q d1 == 0) && !(ruleF kb ka q d2 == 0)) ||
    ((ruleF ka kb q d1 == ruleF kb ka q d2) && ((ruleF ka kb q d1 == 2 || ruleF ka kb q d1 == 4) || (ka == 4 && kb == 4 && d1 && d2)))
theorem both_ruleB : ∀ (ka kb : Fin 13) (q d1 d2 : Bool), bothB ka.val kb.val q d1 d2 = true := by decide +kernel
theorem both_ruleF (ka kb : Fin 13) (q d1 d2 : Bool) (h1 : 2 ≤ ka.val) (h2 : 2 ≤ kb.val) (h3 : needD kb.val d1 = true) (h4 : needD ka.val d2 = true) (h5 : ruleF ka.val kb.val q d1 ≠ 0) (h6 : ruleF kb.val ka.val q d2 ≠ 0) :
    ruleF ka.val kb.val q d1 = ruleF kb.val ka.val q d2 ∧ ((ruleF ka.val kb.val q d1 = 2 ∨ ruleF ka.val kb.val q d1 = 4) ∨ (ka.val = 4 ∧ kb.val = 4 ∧ d1 = true ∧ d2 = true)) := by
  have h := both_ruleB ka kb q d1 d2
  unfold bothB at h
  rw [h3, h4, decide_eq_true h1, decide_eq_true h2, beq_eq_false_iff_ne.2 h5, beq_eq_false_iff_ne.2 h6] at h
  simpa [and_assoc] using h

theorem okP_bd {k l : Int} (h : okPV k l = true) : 2 ≤ k ∧ k ≤ 12 := by
  rw [okP_in, Bool.and_eq_true] at h
  exact of_decide_eq_true h.1

theorem both_rule {ka la kb lb : Int} (ha : okPV ka la = true) (hb : okPV kb lb = true) (h1 : ruleV ka la kb lb ≠ 0) (h2 : ruleV kb lb ka la ≠ 0) :
    ruleV ka la kb lb = ruleV kb lb ka la ∧ (ruleV ka la kb lb = 2 ∨ ruleV ka la kb lb = 4) := by
  obtain ⟨a1, a2⟩ := okP_bd ha
  obtain ⟨b1, b2⟩ := okP_bd hb
  obtain ⟨m, rfl⟩ : ∃ m : Nat, ka = m := ⟨ka.toNat, by omega⟩
  obtain ⟨n, rfl⟩ : ∃ n : Nat, kb = n := ⟨kb.toNat, by omega⟩
  rw [rule_ruleF] at h1 h2 ⊢
  rw [rule_ruleF n m lb la]
  have hq : decide (lb = la) = decide (la = lb) := by
    by_cases z : la = lb
    · rw [decide_eq_true z, decide_eq_true z.symm]
    · rw [decide_eq_false z, decide_eq_false (fun y => z y.symm)]
  rw [hq] at h2 ⊢
  have h := both_ruleF ⟨m, by omega⟩ ⟨n, by omega⟩ (decide (la = lb)) (dupV la n lb) (dupV lb m la) (by simp only; omega) (by simp only; omega) (dup_need _ _ _ n rfl) (dup_need _ _ _ m rfl) h1 h2
  refine ⟨h.1, ?_⟩
  rcases h.2 with h | ⟨e1, e2, e3, e4⟩
  · exact h
  · exfalso
    have := dup_lt la n lb (by simp only at e2; omega) e3
    have := dup_lt lb m la (by simp only at e1; omega) e4
    omega

theorem pair_sym (ka la kb lb : Int) : pairV kb lb ka la = pairV ka la kb lb := by
  unfold pairV
  by_cases ha : okPV ka la = true
  · by_cases hb : okPV kb lb = true
    · by_cases h1 : ruleV ka la kb lb = 0
      · by_cases h2 : ruleV kb lb ka la = 0
        · simp only [ha, hb, h1, h2, if_true, and_self]
        · simp only [ha, hb, h1, h2, if_true, if_false, and_self]
      · by_cases h2 : ruleV kb lb ka la = 0
        · simp only [ha, hb, h1, h2, if_true, if_false, and_self]
        · simp only [ha, hb, h1, h2, if_true, if_false, and_self, (both_rule ha hb h1 h2).1]
    · simp only [hb, false_and, and_false, if_false, Bool.false_eq_true]
  · simp only [ha, false_and, and_false, if_false, Bool.false_eq_true]

/-- What the law says of class, first and first of the pair the other way round. -/
theorem pair_first (ka la kb lb : Int) : ((pairV ka la kb lb = 0 ∨ pairV ka la kb lb = 8) ↔ firstV ka la kb lb = 0) ∧ (firstV ka la kb lb = 0 ↔ firstV kb lb ka la = 0) ∧
    (pairV ka la kb lb = 2 ∨ pairV ka la kb lb = 4 ∨ firstV ka la kb lb = 0 ∨ firstV ka la kb lb + firstV kb lb ka la = 3) ∧ 0 ≤ firstV ka la kb lb ∧ firstV ka la kb lb ≤ 2 ∧ 0 ≤ firstV kb lb ka la ∧ firstV kb lb ka la ≤ 2 := by
  have r1 := rule_range ka la kb lb
  have r2 := rule_range kb lb ka la
  unfold pairV firstV
  by_cases ha : okPV ka la = true
  · by_cases hb : okPV kb lb = true
    · by_cases h1 : ruleV ka la kb lb = 0
      · by_cases h2 : ruleV kb lb ka la = 0
        · simp only [ha, hb, h1, h2, if_true, and_self]
          refine ⟨?_, ?_, ?_, ?_, ?_, ?_, ?_⟩ <;> first | (simp; done) | omega | (simp; omega)
        · simp only [ha, hb, h1, h2, if_true, if_false, and_self]
          refine ⟨?_, ?_, ?_, ?_, ?_, ?_, ?_⟩ <;> first | (simp; done) | omega | (simp; omega)
      · by_cases h2 : ruleV kb lb ka la = 0
        · simp only [ha, hb, h1, h2, if_true, if_false, and_self]
          refine ⟨?_, ?_, ?_, ?_, ?_, ?_, ?_⟩ <;> first | (simp; done) | omega | (simp; omega)
        · have hr := both_rule ha hb h1 h2
          simp only [ha, hb, h1, h2, if_true, if_false, and_self]
          refine ⟨?_, ?_, ?_, ?_, ?_, ?_, ?_⟩ <;> first | (simp; done) | omega | (simp; omega)
    · simp only [hb, false_and, and_false, if_false, Bool.false_eq_true]
      refine ⟨?_, ?_, ?_, ?_, ?_, ?_, ?_⟩ <;> first | (simp; done) | omega | (simp; omega)
  · simp only [ha, false_and, and_false, if_false, Bool.false_eq_true]
    refine ⟨?_, ?_, ?_, ?_, ?_, ?_, ?_⟩ <;> first | (simp; done) | omega | (simp; omega)

theorem cases8 (C I J : Int) (hI : I = 0 ∨ I = 1 ∨ I = 2) (hJ : J = 0 ∨ J = 1 ∨ J = 2) (q1 : (C = 0 ∨ C = 8) ↔ I = 0) (q2 : I = 0 ↔ J = 0) (q3 : C = 2 ∨ C = 4 ∨ I = 0 ∨ I + J = 3) :
    (I = 0 ∧ J = 0 ∧ C = 0) ∨ (I = 0 ∧ J = 0 ∧ C = 8) ∨ (I = 1 ∧ J = 1 ∧ C = 2) ∨ (I = 1 ∧ J = 1 ∧ C = 4) ∨ (I = 2 ∧ J = 2 ∧ C = 2) ∨ (I = 2 ∧ J = 2 ∧ C = 4) ∨ (I = 1 ∧ J = 2 ∧ ¬ (C = 0 ∨ C = 8)) ∨ (I = 2 ∧ J = 1 ∧ ¬ (C = 0 ∨ C = 8)) := by
  rcases hI with rfl | rfl | rfl
  · have hJ0 : J = 0 := q2.1 rfl
    rcases q1.2 rfl with h | h
    · exact Or.inl ⟨rfl, hJ0, h⟩
    · exact Or.inr (Or.inl ⟨rfl, hJ0, h⟩)
  · have hc : ¬ (C = 0 ∨ C = 8) := fun h => absurd (q1.1 h) (by decide)
    rcases hJ with rfl | rfl | rfl
    · exact absurd (q2.2 rfl) (by decide)
    · rcases q3 with h | h | h | h
      · exact Or.inr (Or.inr (Or.inl ⟨rfl, rfl, h⟩))
      · exact Or.inr (Or.inr (Or.inr (Or.inl ⟨rfl, rfl, h⟩)))
      · exact absurd h (by decide)
      · exact absurd h (by decide)
    · exact Or.inr (Or.inr (Or.inr (Or.inr (Or.inr (Or.inr (Or.inl ⟨rfl, rfl, hc⟩))))))
  · have hc : ¬ (C = 0 ∨ C = 8) := fun h => absurd (q1.1 h) (by decide)
    rcases hJ with rfl | rfl | rfl
    · exact absurd (q2.2 rfl) (by decide)
    · exact Or.inr (Or.inr (Or.inr (Or.inr (Or.inr (Or.inr (Or.inr ⟨rfl, rfl, hc⟩))))))
    · rcases q3 with h | h | h | h
      · exact Or.inr (Or.inr (Or.inr (Or.inr (Or.inl ⟨rfl, rfl, h⟩))))
      · exact Or.inr (Or.inr (Or.inr (Or.inr (Or.inr (Or.inl ⟨rfl, rfl, h⟩)))))
      · exact absurd h (by decide)
      · exact absurd h (by decide)

theorem fan_ok (i : Int) (h0 : 0 ≤ i) (h8 : i ≤ 8) : okPV 4 i = true := by
  unfold okPV allowV lvlV inV
  simp [h0, h8]
theorem fan_dup (i k : Int) (i0 : 0 ≤ i) (i8 : i ≤ 8) (k0 : 0 ≤ k) (k8 : k ≤ 8) : dupV i 4 k = decide (i < k) := by
  unfold dupV allowV lvlV inV
  simp [i0, i8, k0, k8]
theorem fan_pair (i k : Int) (i0 : 0 ≤ i) (i8 : i ≤ 8) (k0 : 0 ≤ k) (k8 : k ≤ 8) : pairV 4 i 4 k = if i = k then 2 else 3 := by
  have r : ∀ a b : Int, 0 ≤ a → a ≤ 8 → 0 ≤ b → b ≤ 8 → ruleV 4 a 4 b = if a = b then 2 else if a < b then 3 else 0 := fun a b a0 a8 b0 b8 => by
    unfold ruleV
    rw [fan_dup a b a0 a8 b0 b8]
    simp
  unfold pairV
  rw [if_pos ⟨fan_ok i i0 i8, fan_ok k k0 k8⟩, r i k i0 i8 k0 k8, r k i k0 k8 i0 i8]
  by_cases e : i = k
  · subst e; simp
  · by_cases l : i < k
    · simp [e, l]
    · simp [e, l, show ¬ k = i by omega, show k < i by omega]

def kints : List Int := [-1, 0, 13, -9223372036854775808, 9223372036854775807]
def lints : List Int := [-1, 9, 8, 1, -9223372036854775808, 9223372036854775807]
def pints : List Int := [4, 2, 6, 12, 9]

set_option maxHeartbeats 400000 in
theorem draw_kind (B b N : Nat) (v : Value) (zs : List Int) (w : World) (h : Src B b N v zs w) (hN : N + 4 ≤ 1000000) :
    Calls Tryd.prog 46 #[.pointer (some ⟨b, 0, none⟩)] w fun e w' => (∃ r : Int, e = .returned (.int .i64 r)) ∧ Src B b (N + 4) v zs w' ∧ Below B w w' := by
  go_enter Tryd.func46, Tryd.ntmps46
  go_wp2_with fail
  refine (src_one B b N v zs 16 _ h (by omega) (by omega)).mono ?_
  rintro e w1 ⟨⟨r, rfl⟩, s1, b1⟩
  have hB := src_le h
  cases r with
  | true =>
    go_wp2_with fail
    refine (src_among B b (N + 2) v _ zs kints _ (src_alloc s1 _) (by omega) (rdInts_new w1 2 kints (by decide) (by decide)) (fun k cap hk => by have := src_lt s1; simp at hk; omega)).mono ?_
    rintro e w2 ⟨⟨r, hr, rfl⟩, s2, b2⟩
    go_wp2_with fail
    go_ret
    exact ⟨⟨r, rfl⟩, s2, (b1.below hB).trans (((Below.refl _ _).alloc (by have := src_lt s1; omega) _).trans (b2.below hB))⟩
  | false =>
    go_wp2_with fail
    refine (src_pick B b (N + 2) v zs 12 _ s1 (by omega) (by omega)).mono ?_
    rintro e w2 ⟨⟨r, r0, r1, r2, rfl⟩, s2, b2⟩
    go_wp2_with fail
    go_ret
    exact ⟨⟨_, rfl⟩, s2, (b1.below hB).trans (b2.below hB)⟩

set_option maxHeartbeats 400000 in
theorem draw_level (B b N : Nat) (v : Value) (zs : List Int) (kd : Int) (w : World) (h : Src B b N v zs w) (hN : N + 6 ≤ 1000000) :
    Calls Tryd.prog 49 #[.pointer (some ⟨b, 0, none⟩), .int .i64 kd] w fun e w' => (∃ r : Int, e = .returned (.int .i64 r)) ∧ Src B b (N + 6) v zs w' ∧ Below B w w' := by
  go_enter Tryd.func49, Tryd.ntmps49
  go_wp2_with fail
  refine (src_one B b N v zs 16 _ h (by omega) (by omega)).mono ?_
  rintro e w1 ⟨⟨r, rfl⟩, s1, b1⟩
  have hB := src_le h
  cases r with
  | true =>
    go_wp2_with fail
    refine (src_among B b (N + 2) v _ zs lints _ (src_alloc s1 _) (by omega) (rdInts_new w1 2 lints (by decide) (by decide)) (fun k cap hk => by have := src_lt s1; simp at hk; omega)).mono ?_
    rintro e w2 ⟨⟨r, hr, rfl⟩, s2, b2⟩
    go_wp2_with fail
    go_ret
    exact ⟨⟨r, rfl⟩, src_mono s2 (by omega), (b1.below hB).trans (((Below.refl _ _).alloc (by have := src_lt s1; omega) _).trans (b2.below hB))⟩
  | false =>
    cases hl : lvlV kd
    · go_wp2_with (go_at_call 50; refine (spec_lvl _ _).mono ?_; rintro e w' ⟨rfl, rfl⟩)
      go_ret
      exact ⟨⟨0, rfl⟩, src_mono s1 (by omega), b1.below hB⟩
    · go_wp2_with (go_at_call 50; refine (spec_lvl _ _).mono ?_; rintro e w' ⟨rfl, rfl⟩)
      refine (src_one B b (N + 2) v zs 6 _ s1 (by omega) (by omega)).mono ?_
      rintro e w2 ⟨⟨r, rfl⟩, s2, b2⟩
      cases r with
      | true =>
        go_wp2_with fail
        refine (src_pick B b (N + 4) v zs 9 _ s2 (by omega) (by omega)).mono ?_
        rintro e w3 ⟨⟨r, r0, r1, r2, rfl⟩, s3, b3⟩
        go_wp2_with fail
        go_ret
        exact ⟨⟨_, rfl⟩, s3, (b1.below hB).trans ((b2.below hB).trans (b3.below hB))⟩
      | false =>
        go_wp2_with fail
        refine (src_pick B b (N + 4) v zs 3 _ s2 (by omega) (by omega)).mono ?_
        rintro e w3 ⟨⟨r, r0, r1, r2, rfl⟩, s3, b3⟩
        go_wp2_with fail
        go_ret
        exact ⟨⟨_, rfl⟩, s3, (b1.below hB).trans ((b2.below hB).trans (b3.below hB))⟩

theorem results_tmp4 {fn : Func} {t u v x : Tmp} (h : fn.results = #[.tmp t, .tmp u, .tmp v, .tmp x]) (tmps : Array Value) (P : Program) (w : World) :
    (results fn tmps).run P w = .ok (.tuple #[tmps.getD t undef, tmps.getD u undef, tmps.getD v undef, tmps.getD x undef]) w := by
  simp [results, h]

def Pair4 (e : Ending) : Prop := ∃ a x c y : Int, e = .returned (.tuple #[.int .i64 a, .int .i64 x, .int .i64 c, .int .i64 y])

set_option maxHeartbeats 400000 in
theorem draw_pair (v : Value) (zs : List Int) (w : World) (h : RdBytes w v zs) :
    Calls Tryd.prog 37 #[v] w fun e w' => Pair4 e ∧ Gw w w' := by
  go_enter Tryd.func37, Tryd.ntmps37
  go_wp2_with fail
  refine (src_from v zs _ h).mono ?_
  rintro e w1 ⟨rfl, s1, b1⟩
  go_wp2_with fail
  refine (draw_kind _ _ 0 v zs _ s1 (by omega)).mono ?_
  rintro e w2 ⟨⟨a, rfl⟩, s2, b2⟩
  go_wp2_with fail
  refine (draw_kind _ _ 4 v zs _ s2 (by omega)).mono ?_
  rintro e w3 ⟨⟨c, rfl⟩, s3, b3⟩
  go_wp2_with fail
  refine (src_one _ _ 8 v zs 3 _ s3 (by omega) (by omega)).mono ?_
  rintro e w4 ⟨⟨r, rfl⟩, s4, b4⟩
  have hB := src_le s4
  cases r with
  | true =>
    go_wp2_with fail
    refine (src_among _ _ 10 v _ zs pints _ (src_alloc s4 _) (by omega) (rdInts_new w4 2 pints (by decide) (by decide)) (fun k cap hk => by have := src_lt s4; simp at hk; omega)).mono ?_
    rintro e w5 ⟨⟨p, hp, rfl⟩, s5, b5⟩
    go_wp2_with fail
    refine (draw_level _ _ 12 v zs p _ s5 (by omega)).mono ?_
    rintro e w6 ⟨⟨x, rfl⟩, s6, b6⟩
    go_wp2_with fail
    refine (draw_level _ _ 18 v zs c _ s6 (by omega)).mono ?_
    rintro e w7 ⟨⟨y, rfl⟩, s7, b7⟩
    go_wp2_with fail
    try simp only [Exit.inBlock, Exit.then]
    refine bodyPost_ret (results_tmp4 rfl _ _ _) rfl ?_
    exact ⟨⟨p, x, c, y, rfl⟩, b1.trans (b2.trans (b3.trans ((b4.below hB).trans (((Below.refl _ _).alloc (by have := src_lt s4; omega) _).trans ((b5.below hB).trans (b6.trans b7))))))⟩
  | false =>
    go_wp2_with fail
    refine (draw_level _ _ 10 v zs a _ s4 (by omega)).mono ?_
    rintro e w6 ⟨⟨x, rfl⟩, s6, b6⟩
    go_wp2_with fail
    refine (draw_level _ _ 16 v zs c _ s6 (by omega)).mono ?_
    rintro e w7 ⟨⟨y, rfl⟩, s7, b7⟩
    go_wp2_with fail
    try simp only [Exit.inBlock, Exit.then]
    refine bodyPost_ret (results_tmp4 rfl _ _ _) rfl ?_
    exact ⟨⟨a, x, c, y, rfl⟩, b1.trans (b2.trans (b3.trans ((b4.below hB).trans (b6.trans b7))))⟩

theorem draw_pairclass (v : Value) (zs : List Int) (w : World) (h : RdBytes w v zs) :
    Calls Tryd.prog 26 #[v] w fun e w' => Pair4 e ∧ Gw w w' := by
  go_enter Tryd.func26, Tryd.ntmps26
  go_wp2_with fail
  refine (draw_pair v zs _ h).mono ?_
  rintro e w1 ⟨⟨a, x, c, y, rfl⟩, g1⟩
  go_wp2_with fail
  try simp only [Exit.inBlock, Exit.then]
  refine bodyPost_ret (results_tmp4 rfl _ _ _) rfl ?_
  exact ⟨⟨a, x, c, y, rfl⟩, g1⟩

theorem big_code (v : Value) (zs : List Int) (w : World) (h : RdBytes w v zs) : Calls Tryd.prog 25 #[v] w fun e w' => (∃ r : Bool, e = .returned (.bool r)) ∧ w = w' := by
  obtain ⟨ao, cap, rfl⟩ := h.slice
  go_enter Tryd.func25, Tryd.ntmps25
  go_wp2_with fail
  go_ret
  exact ⟨⟨_, rfl⟩, rfl⟩

end Go.Proofs.YtgobiejokgcmmaaDoor.Con
