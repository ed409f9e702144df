/-
  Proved: for all arguments the law FnExactGrowth returns true and leaves its arguments and the program's table growthRules as they were. Condition: growthRules reads as the program's text lays it, which the card ties to the text.
-/
import Derived.Test.YtgobiejokgcmmaaDoorAgP
import Derived.Test.YtgobiejokgcmmaaDoorCards
import Derived.Test.YtgobiejokgcmmaaDoorTie
import Derived.LaidMore
import Derived.Lay
import Derived.SevenTiedAt
import Derived.Stop.Joined
namespace Go.Proofs.YtgobiejokgcmmaaDoor.fnExactGrowth
open Go.ChangeShapes Go.WideShapes Go.ChangeAt Go.RowKit Con
set_option linter.unusedVariables false
theorem own : ownKnob Tryd.prog.godebug = none := by kernel_rfl
theorem laidOut : laidOutB Tryd.prog = true := by kernel_rfl

set_option maxRecDepth 100000 in
set_option maxHeartbeats 4000000 in
theorem walk (w : World) (a0 : Int) (w0 : (Lit.int .i64 a0).wf = true) (a1 : Int) (w1 : (Lit.int .i64 a1).wf = true) (hT : laidMetH Tryd.prog Rows.fnExactGrowthRow.laid w) :
    Calls Tryd.prog 9 #[.int .i64 a0, .int .i64 a1] w fun e w' => e = .returned (.bool true) ∧ Gw w w' := by
  have hP : laidMet Tryd.prog [("loop.example/g01074/impl.growthRules", .agg (iDat growL))] w := by
    have h2 : laidMetH Tryd.prog Rows.fnExactGrowthRow.laid w := hT
    rw [MakeChecks.laidMetH_plain _ _ _ (by kernel_rfl)] at h2
    exact h2
  have HK := Lib.hid (show GrAt 2 w from inttab_cell (t := 51) (e := 50) (by kernel_rfl) (by kernel_rfl) Tryd.underlying51 Tryd.underlying50 rfl (by intro j f hf; match j, hf with | 0, hf => (obtain rfl := Option.some.inj hf; exact ⟨rfl, Tryd.underlying2, by kernel_rfl⟩) | 1, hf => (obtain rfl := Option.some.inj hf; exact ⟨rfl, Tryd.underlying2, by kernel_rfl⟩) | 2, hf => (obtain rfl := Option.some.inj hf; exact ⟨rfl, Tryd.underlying2, by kernel_rfl⟩)) (by kernel_rfl) growL hP)
  clear hP hT
  obtain ⟨A, B, hAB⟩ : ∃ A B, ∀ e, GrowR (growV a0 a1) e → e = .returned (.tuple #[.int .i64 A, .int .i64 B]) := ⟨_, _, fun e h => h⟩
  have HAB := Lib.hid hAB
  clear hAB
  go_enter Tryd.func9, Tryd.ntmps9
  go_wp2_with fail
  refine (spec_grow _ _ _).mono ?_
  rintro e w' ⟨he, rfl⟩
  obtain rfl := HAB.out _ he
  clear he
  go_wp2_with fail
  refine (impl_grow _ _ _ HK.out).mono ?_
  rintro e w' ⟨he, hg⟩
  obtain rfl := HAB.out _ he
  clear he
  go_wp2_with fail
  go_ret
  exact ⟨rfl, hg⟩

set_option maxRecDepth 100000 in
theorem lifted (os : Os) (started : os.Started) (H : Type) (enc : TypeId × Value → H) :
    ReturnsInHanded {} Tryd.checked os 9 .any (fun w args => (Rows.fnExactGrowthSpec.pre enc Tryd.prog Tryd.f9 Rows.fnExactGrowthRow.domain false w args ∧ laidMetH Tryd.prog Rows.fnExactGrowthRow.laid w) ∧ sizedMet enc Tryd.prog Tryd.f9 (OpenSpec.ofChange Rows.fnExactGrowthSpec) false w args)
      (Rows.fnExactGrowthSpec.post enc Tryd.prog Tryd.f9 false true false false) := by
  refine returnsInHanded_of_change_and (C := Tryd.checked) (X := fun w _ => laidMetH Tryd.prog Rows.fnExactGrowthRow.laid w) (fun _ _ _ hh h => h.of_heap hh) own started (by kernel_rfl) Tryd.func9
    (ChangeSpec.witness_shaped (enc := enc) (C := Tryd.checked) (os := os) (X := fun w _ => laidMetH Tryd.prog Rows.fnExactGrowthRow.laid w) false (World.laidAll Tryd.prog os Rows.fnExactGrowthRow.laid) #[.int .i64 0, .int .i64 0] 8 (World.laidAll_os _ _ _)
      (World.shaped_of_ZipB (by kernel_rfl) (by kernel_rfl)) (by kernel_rfl) (by kernel_rfl) (by kernel_rfl)
      (by rw [MakeChecks.laidMetH_plain _ _ _ (by kernel_rfl)]; exact laidMet_laidAll _ (by kernel_rfl) (by kernel_rfl))) ?_
  intro W base args ds gs before hval0 hW _ _ hT _
  have hval : ∀ (j : Nat) t v, Tryd.f9.params[j]? = some t → args[j]? = some v → Value.okWide Tryd.prog W .any base t v := hval0
  have hW' := hW
  obtain ⟨p, q, hA0, hV0, rfl, hfz, hnd⟩ := hW
  have hA : DataW.TrodAll enc Tryd.prog W 0 (fun _ => true) true Tryd.f9.params.toList args.toList ds p := hA0
  rw [Tryd.params9] at hA hval
  obtain ⟨v0, vs0, d0, ds0, p0, q0, hargs, rfl, rfl, h0, r0⟩ := trodAll_cons hA
  obtain ⟨v1, vs1, d1, ds1, p1, q1, rfl, rfl, rfl, h1, r1⟩ := trodAll_cons r0
  obtain ⟨rfl, rfl, rfl⟩ := trodAll_nil r1
  obtain rfl : args = #[v0, v1] := by cases args; simp_all
  obtain ⟨a0, rfl, rfl, rfl, w0⟩ := open_int Tryd.underlying2 (hval 0 2 v0 rfl rfl) h0
  obtain ⟨a1, rfl, rfl, rfl, w1⟩ := open_int Tryd.underlying2 (hval 1 2 v1 rfl rfl) h1
  obtain ⟨g0, rfl⟩ : ∃ g0, gs = [g0] := by
    obtain ⟨g, t, cs, fuel, d, p', rfl, _⟩ := trodVars_one hV0
    exact ⟨d, rfl⟩
  refine (walk W a0 w0 a1 w1 hT).mono fun e W' ⟨he, hg⟩ => ?_
  subst he
  exact ⟨_, rfl, post_law laidOut (by kernel_rfl) (by kernel_rfl) rfl Tryd.underlying4 hW' hg rfl⟩

theorem holds : Rows.FnExactGrowthSaid :=
  OpenClaim.holds_of_wide 9 Tryd.f9 rfl rfl rfl rfl rfl rfl rfl ⟨rfl, rfl, rfl, rfl, rfl⟩ rfl rfl rfl rfl rfl (by kernel_rfl) Tryd.func9 (by kernel_rfl)
    (of_decide_eq_true (by kernel_rfl)) (by unfold Func.isWrapper; first | (rw [if_pos (by decide +kernel)]; kernel_rfl) | (rw [if_neg (by decide +kernel)]; exact ⟨rfl, rfl⟩))
    (fun os started H enc _ => lifted os started H enc)

/-- The given statement: the tied card. -/
theorem proved : Rows.FnExactGrowthCardSaid :=
  Claim7.holds_tied_plain_at .later [] [.data] true Rows.fnExactGrowthCard.stood.harness Rows.fnExactGrowthCard.stood.looks holds (fun _ h => by cases h) (by kernel_rfl) (fun _ h => by cases h) fnExactGrowth_row_tie rfl ⟨rfl, rfl⟩ (by kernel_rfl) rfl
    (fun f fn hf hfn => by
      obtain rfl : f = 9 := Option.some.inj ((show Tryd.prog.funcNamed Rows.fnExactGrowthRow.func = some 9 by kernel_rfl).symm.trans hf) |>.symm
      obtain rfl : fn = Tryd.f9 := (Option.some.inj (Tryd.func9.symm.trans hfn)).symm
      exact ⟨by kernel_rfl, fun j t ht => by
        rw [Tryd.params9] at ht
        have hm : t ∈ [2, 2] := by simpa using Array.mem_of_getElem? ht
        have hall : ([2, 2].all fun u => !Tryd.prog.wantsStandIn u) = true := by kernel_rfl
        exact (show Tryd.prog.wantsStandIn t = false by simpa using List.all_eq_true.1 hall t hm)⟩)
    (by kernel_rfl)
#print axioms proved
end Go.Proofs.YtgobiejokgcmmaaDoor.fnExactGrowth
