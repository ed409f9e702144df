/-
  Proved: for every core term the law FnExactIsStratified returns true and leaves its argument and the program's table coreForms as they were. Condition: coreForms reads as the program's text lays it, which the card ties to the text.
-/
import Derived.Test.YtfbgkbgoooepmaaDoorCoSt
import Derived.Test.YtfbgkbgoooepmaaDoorCoSs
import Derived.Test.YtfbgkbgoooepmaaDoorCoLw
import Derived.Deep.RegionHeld3
import Derived.Deep.Cut
import Derived.Test.YtfbgkbgoooepmaaDoorCards
import Derived.Test.YtfbgkbgoooepmaaDoorTie
import Derived.LaidMore
import Derived.Lay
import Derived.SevenTiedAt
import Derived.Stop.Joined
namespace Go.Proofs.YtfbgkbgoooepmaaDoor.fnExactIsStratified
open Go.ChangeShapes Go.WideShapes Go.ChangeAt Go.RowKit Con
set_option linter.unusedVariables false
theorem own : ownKnob Tryd.prog.godebug = none := by kernel_rfl
theorem laidOut : laidOutB Tryd.prog = true := by kernel_rfl

set_option maxHeartbeats 4000000 in
theorem walk (w : World) (a0 : LK) (w0 : a0.Ok w) (hT : laidMetH Tryd.prog Rows.fnExactIsStratifiedRow.laid w) :
    Calls Tryd.prog 9 #[a0.val] w fun e w' => e = .returned (.bool true) ∧ Gw w w' := by
  have hTb : KTbl w := ktbl_of (by have h2 : laidMetH Tryd.prog Rows.fnExactIsStratifiedRow.laid w := hT; rw [MakeChecks.laidMetH_plain _ _ _ (by kernel_rfl)] at h2; exact h2)
  have TB := Lib.hid hTb
  have O0 := Lib.hid w0
  have gW : Gw w (w.alloc (a0.obj 25)) := (Gw.refl w).alloc _
  have BA := BoxK.new w a0 25
  clear hTb hT
  go_enter Tryd.func9, Tryd.ntmps9
  go_upto_region 2 with (fail)
  generalize w.alloc (.cells #[.int .i64 a0.k, .int .i64 a0.v, .slice a0.da a0.ds.length a0.dc, .slice a0.a a0.ks.length a0.cap] 25) = wA at *
  obtain ⟨p0, p1, p2, p3⟩ := BA.c
  go_wp2_with fail
  refine (laws_szCore a0 _ _ (O0.out.grow gW) (by omega) (by omega)).mono ?_
  rintro e wB ⟨he, gB⟩
  subst he
  replace BA := BA.grow gB
  replace gW := gW.trans gB
  clear p0 p1 p2 p3 gB
  by_cases hsA : 1048576 < a0.sz
  · have HS : szR 1048576 a0.sz = -1 := if_neg (by omega)
    rw [HS]
    go_wp2_with fail
    go_ret
    exact ⟨rfl, gW⟩
  have HS : szR 1048576 a0.sz = 1048576 - a0.sz := if_pos (by omega)
  rw [HS]
  have hp : ¬ ((1048576 : Int) - a0.sz < 0) := by omega
  have hz : a0.sz ≤ 1048576 := by omega
  clear HS hsA
  obtain ⟨p0, p1, p2, p3⟩ := BA.c
  go_wp2_with fail
  refine (laws_toCore a0 _ (O0.out.grow gW) hz).mono ?_
  rintro e w2 ⟨x, rfl, hx, nx, g2⟩
  have HX := Lib.hid hx
  have NX := Lib.hid nx
  replace BA := BA.grow g2
  replace gW := gW.trans g2
  clear p0 p1 p2 p3 g2 hx nx hp
  go_wp2_with fail
  refine (spec_stratified x _ NX.out.1).mono ?_
  rw [HX.out]
  rintro e w3 ⟨rfl, g3⟩
  replace BA := BA.grow g3
  replace gW := gW.trans g3
  clear g3 NX HX
  obtain ⟨p0, p1, p2, p3⟩ := BA.c
  go_wp2_with fail
  refine (laws_toCore a0 _ (O0.out.grow gW) hz).mono ?_
  rintro e w4 ⟨y, rfl, hy, ny, g4⟩
  have HY := Lib.hid hy
  replace BA := BA.grow g4
  replace gW := gW.trans g4
  clear p0 p1 p2 p3 g4 hy
  have OY := Lib.hid (ny.1.grow ((Gw.refl w4).alloc (y.obj 30)))
  have BY := BoxK.new w4 y 30
  replace BA := BA.grow ((Gw.refl w4).alloc (y.obj 30))
  replace gW := gW.alloc (y.obj 30)
  clear ny
  go_upto_region 7 with (fail)
  generalize w4.alloc (.cells #[.int .i64 y.k, .int .i64 y.v, .slice y.da y.ds.length y.dc, .slice y.a y.ks.length y.cap] 30) = W4 at *
  obtain ⟨q0, q1, q2, q3⟩ := BY.c
  go_wp2_with fail
  refine (impl_strat y _ OY.out (TB.out.grow gW)).mono ?_
  rw [HY.out]
  rintro e w5 ⟨rfl, g5⟩
  replace BA := BA.grow g5
  replace BY := BY.grow g5
  replace gW := gW.trans g5
  replace OY := Lib.hid (OY.out.grow g5)
  clear q0 q1 q2 q3 g5
  have hneq : (strC a0.co != strC a0.co) = false := by simp
  go_upto_region 10 with (fail)
  clear hneq
  obtain ⟨p0, p1, p2, p3⟩ := BA.c
  obtain ⟨q0, q1, q2, q3⟩ := BY.c
  have lA := BA.lt
  have lX := BY.lt
  go_region_held3 (fun W => W.cell? ⟨w4.heap.size, 0, none⟩ = some (.int .i64 y.k) ∧ W.cell? ⟨w4.heap.size, 1, none⟩ = some (.int .i64 y.v) ∧ W.cell? ⟨w4.heap.size, 2, none⟩ = some (.slice y.da y.ds.length y.dc) ∧ W.cell? ⟨w4.heap.size, 3, none⟩ = some (.slice y.a y.ks.length y.cap) ∧ W.cell? ⟨w.heap.size, 0, none⟩ = some (.int .i64 a0.k) ∧ W.cell? ⟨w.heap.size, 1, none⟩ = some (.int .i64 a0.v) ∧ W.cell? ⟨w.heap.size, 2, none⟩ = some (.slice a0.da a0.ds.length a0.dc) ∧ W.cell? ⟨w.heap.size, 3, none⟩ = some (.slice a0.a a0.ks.length a0.cap))
    (first | exact ⟨q0, q1, q2, q3, p0, p1, p2, p3⟩ | exact ⟨(k6 _ _ lX).trans q0, (k6 _ _ lX).trans q1, (k6 _ _ lX).trans q2, (k6 _ _ lX).trans q3, (k6 _ _ lA).trans p0, (k6 _ _ lA).trans p1, (k6 _ _ lA).trans p2, (k6 _ _ lA).trans p3⟩ | exact ⟨(k7 _ _ lX).trans q0, (k7 _ _ lX).trans q1, (k7 _ _ lX).trans q2, (k7 _ _ lX).trans q3, (k7 _ _ lA).trans p0, (k7 _ _ lA).trans p1, (k7 _ _ lA).trans p2, (k7 _ _ lA).trans p3⟩)
    (first
      | (go_at_call 17; refine (laws_toCore a0 _ (by exact (O0.out.grow gW).drew) hz).mono ?_; rintro e w6 ⟨z, rfl, hz', nz, g6⟩; have HZ := Lib.hid hz'; clear hz'; have k6 : ∀ b o, b < w5.heap.size → w6.cell? ⟨b, o, none⟩ = w5.cell? ⟨b, o, none⟩ := fun b o h => (bcell g6).1 b o h)
      | (go_at_call 19; refine (laws_eqCore y z _ (by exact OY.out.drew.grow g6) nz.1 (by rw [HY.out, HZ.out])).mono ?_; rintro e w7 ⟨rfl, g7⟩; have k7 : ∀ b o, b < w5.heap.size → w7.cell? ⟨b, o, none⟩ = w5.cell? ⟨b, o, none⟩ := fun b o h => ((bcell g7).1 b o (Nat.lt_of_lt_of_le h g6.size)).trans (k6 b o h)))
  go_wp2_with fail
  go_ret
  exact ⟨rfl, (gW.drew.trans g6).trans g7⟩

set_option maxRecDepth 100000 in
theorem lifted (os : Os) (started : os.Started) (H : Type) (enc : TypeId × Value → H) :
    ReturnsInHanded {} Tryd.checked os 9 .any (fun w args => (Rows.fnExactIsStratifiedSpec.pre enc Tryd.prog Tryd.f9 Rows.fnExactIsStratifiedRow.domain false w args ∧ laidMetH Tryd.prog Rows.fnExactIsStratifiedRow.laid w) ∧ sizedMet enc Tryd.prog Tryd.f9 (OpenSpec.ofChange Rows.fnExactIsStratifiedSpec) false w args)
      (Rows.fnExactIsStratifiedSpec.post enc Tryd.prog Tryd.f9 false true false false) := by
  refine returnsInHanded_of_change_and (C := Tryd.checked) (X := fun w _ => laidMetH Tryd.prog Rows.fnExactIsStratifiedRow.laid w) (fun _ _ _ hh h => h.of_heap hh) own started (by kernel_rfl) Tryd.func9
    (ChangeSpec.witness_shaped (enc := enc) (C := Tryd.checked) (os := os) (X := fun w _ => laidMetH Tryd.prog Rows.fnExactIsStratifiedRow.laid w) false (World.laidAll Tryd.prog os Rows.fnExactIsStratifiedRow.laid) #[.agg #[.int .i64 0, .int .i64 0, .slice none 0 0, .slice none 0 0]] 8 (World.laidAll_os _ _ _)
      (World.shaped_of_ZipB (by kernel_rfl) (by kernel_rfl)) (by kernel_rfl) (by kernel_rfl) (by kernel_rfl)
      (by rw [MakeChecks.laidMetH_plain _ _ _ (by kernel_rfl)]; exact laidMet_laidAll _ (by kernel_rfl) (by kernel_rfl))) ?_
  intro W base args ds gs before hval0 hW _ _ hT _
  have hval : ∀ (j : Nat) t v, Tryd.f9.params[j]? = some t → args[j]? = some v → Value.okWide Tryd.prog W .any base t v := hval0
  have hW' := hW
  obtain ⟨p, q, hA0, hV0, rfl, hfz, hnd⟩ := hW
  have hA : DataW.TrodAll enc Tryd.prog W 0 (fun _ => true) true Tryd.f9.params.toList args.toList ds p := hA0
  rw [Tryd.params9] at hA hval
  obtain ⟨v0, vs0, d0, ds0, p0, q0, hargs, rfl, rfl, h0, r0⟩ := trodAll_cons hA
  obtain ⟨rfl, rfl, rfl⟩ := trodAll_nil r0
  obtain rfl : args = #[v0] := by cases args; simp_all
  obtain ⟨a0, rfl, w0⟩ := open_core (hval 0 25 v0 rfl rfl) h0
  obtain ⟨g0, rfl⟩ : ∃ g0, gs = [g0] := by
    obtain ⟨g, t, cs, fuel, d, p', rfl, _⟩ := trodVars_one hV0
    exact ⟨d, rfl⟩
  refine (walk W a0 w0 hT).mono fun e W' ⟨he, hg⟩ => ?_
  subst he
  exact ⟨_, rfl, post_law laidOut (by kernel_rfl) (by kernel_rfl) rfl Tryd.underlying4 hW' hg rfl⟩

theorem holds : Rows.FnExactIsStratifiedSaid :=
  OpenClaim.holds_of_wide 9 Tryd.f9 rfl rfl rfl rfl rfl rfl rfl ⟨rfl, rfl, rfl, rfl, rfl⟩ rfl rfl rfl rfl rfl (by kernel_rfl) Tryd.func9 (by kernel_rfl)
    (of_decide_eq_true (by kernel_rfl)) (by unfold Func.isWrapper; first | (rw [if_pos (by decide +kernel)]; kernel_rfl) | (rw [if_neg (by decide +kernel)]; exact ⟨rfl, rfl⟩))
    (fun os started H enc _ => lifted os started H enc)

/-- The given statement: the tied card. -/
theorem proved : Rows.FnExactIsStratifiedCardSaid :=
  Claim7.holds_tied_plain_at .later [] [.data] true Rows.fnExactIsStratifiedCard.stood.harness Rows.fnExactIsStratifiedCard.stood.looks holds (fun _ h => by cases h) (by kernel_rfl) (fun _ h => by cases h) fnExactIsStratified_row_tie rfl ⟨rfl, rfl⟩ (by kernel_rfl) rfl
    (fun f fn hf hfn => by
      obtain rfl : f = 9 := Option.some.inj ((show Tryd.prog.funcNamed Rows.fnExactIsStratifiedRow.func = some 9 by kernel_rfl).symm.trans hf) |>.symm
      obtain rfl : fn = Tryd.f9 := (Option.some.inj (Tryd.func9.symm.trans hfn)).symm
      exact ⟨by kernel_rfl, fun j t ht => by
        rw [Tryd.params9] at ht
        have hm : t ∈ [25] := by simpa using Array.mem_of_getElem? ht
        have hall : ([25].all fun u => !Tryd.prog.wantsStandIn u) = true := by kernel_rfl
        exact (show Tryd.prog.wantsStandIn t = false by simpa using List.all_eq_true.1 hall t hm)⟩)
    (by kernel_rfl)
#print axioms proved
end Go.Proofs.YtfbgkbgoooepmaaDoor.fnExactIsStratified
