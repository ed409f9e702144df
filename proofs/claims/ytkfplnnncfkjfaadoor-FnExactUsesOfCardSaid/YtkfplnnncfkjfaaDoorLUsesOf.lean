/-
  Proved: for every term and name the law FnExactUsesOf returns true and leaves its arguments and the program's table nodeForms as they were. Condition: nodeForms reads as the program's text lays it, which the card ties to the text.
-/
import Derived.Test.YtkfplnnncfkjfaaDoorUsI
import Derived.Test.YtkfplnnncfkjfaaDoorTmSz
import Derived.Test.YtkfplnnncfkjfaaDoorTmTo
import Derived.Test.YtkfplnnncfkjfaaDoorTmEq
import Derived.Test.YtkfplnnncfkjfaaDoorTm
import Derived.Deep.RegionHeld3
import Derived.Deep.Cut
import Derived.Test.YtkfplnnncfkjfaaDoorCards
import Derived.Test.YtkfplnnncfkjfaaDoorTie
import Derived.LaidMore
import Derived.Lay
import Derived.SevenTiedAt
import Derived.Stop.Joined
namespace Go.Proofs.YtkfplnnncfkjfaaDoor.fnExactUsesOf
open Go.ChangeShapes Go.WideShapes Go.ChangeAt Go.RowKit Con
set_option linter.unusedVariables false
open Go.ChangeMaps (open_string shut_string)
theorem own : ownKnob Tryd.prog.godebug = none := by kernel_rfl
theorem laidOut : laidOutB Tryd.prog = true := by kernel_rfl

set_option maxHeartbeats 4000000 in
theorem walk (w : World) (a0 : LM) (w0 : a0.Ok w) (a1 : ByteArray) (w1 : a1.size ≤ maxLen) (hT : laidMetH Tryd.prog Rows.fnExactUsesOfRow.laid w) :
    Calls Tryd.prog 4 #[a0.val, .string a1] w fun e w' => e = .returned (.bool true) ∧ Gw w w' := by
  unfold maxLen at w1
  have hTb : Tbl w := tbl_of (by have h2 : laidMetH Tryd.prog Rows.fnExactUsesOfRow.laid w := hT; rw [MakeChecks.laidMetH_plain _ _ _ (by kernel_rfl)] at h2; exact h2)
  have TB := Lib.hid hTb
  have O0 := Lib.hid w0
  have gW : Gw w (w.alloc (.cells #[.int .i64 a0.k, .int .i64 a0.m, .string a0.n, .int .i64 a0.t.k, .string a0.t.n, .slice a0.t.a a0.t.ks.length a0.t.cap, .slice a0.na a0.ns.length a0.nc, .slice a0.a a0.ks.length a0.cap] 42)) := (Gw.refl w).alloc _
  have BA := BoxM.new w a0 42
  clear hTb hT
  go_enter Tryd.func4, Tryd.ntmps4
  go_upto_region 1 with (fail)
  generalize (w.alloc (.cells #[.int .i64 a0.k, .int .i64 a0.m, .string a0.n, .int .i64 a0.t.k, .string a0.t.n, .slice a0.t.a a0.t.ks.length a0.t.cap, .slice a0.na a0.ns.length a0.nc, .slice a0.a a0.ks.length a0.cap] 42)) = wA at *
  by_cases hbig : 1048576 < (a1.size : Int)
  · go_wp2_with fail
    go_ret
    exact ⟨rfl, gW⟩
  obtain ⟨p0, p1, p2, p3, p4, p5, p6, p7⟩ := BA.c
  go_wp2_with fail
  refine (laws_szTerm a0 _ _ (O0.out.grow gW) (by omega) (by omega)).mono ?_
  rintro e wB ⟨he, gB⟩
  subst he
  replace BA := BA.grow gB
  replace gW := gW.trans gB
  clear p0 p1 p2 p3 p4 p5 p6 p7 gB
  by_cases hsA : 1048576 < a0.sz
  · have HS : szR 1048576 a0.sz = -1 := if_neg (by omega)
    rw [HS]
    go_wp2_with fail
    go_ret
    exact ⟨rfl, gW⟩
  have HS : szR 1048576 a0.sz = 1048576 - a0.sz := if_pos (by omega)
  rw [HS]
  have hp : ¬ ((1048576 : Int) - a0.sz < 0) := by omega
  have hz : a0.sz ≤ 1048576 := by omega
  clear HS hsA
  obtain ⟨p0, p1, p2, p3, p4, p5, p6, p7⟩ := BA.c
  go_wp2_with fail
  refine (laws_toTerm a0 _ (O0.out.grow gW) hz).mono ?_
  rintro e w2 ⟨x, rfl, hx, nx, g2⟩
  have HX := Lib.hid hx
  have NX := Lib.hid nx
  replace BA := BA.grow g2
  replace gW := gW.trans g2
  clear p0 p1 p2 p3 p4 p5 p6 p7 g2 hx nx hp
  go_wp2_with fail
  refine (spec_usesOf x a1 (by omega) _ NX.out.1).mono ?_
  rw [HX.out]
  rintro e w3 ⟨rfl, g3⟩
  replace BA := BA.grow g3
  replace gW := gW.trans g3
  clear g3 NX HX
  obtain ⟨p0, p1, p2, p3, p4, p5, p6, p7⟩ := BA.c
  go_wp2_with fail
  refine (laws_toTerm a0 _ (O0.out.grow gW) hz).mono ?_
  rintro e w4 ⟨y, rfl, hy, ny, g4⟩
  have HY := Lib.hid hy
  replace BA := BA.grow g4
  replace gW := gW.trans g4
  clear p0 p1 p2 p3 p4 p5 p6 p7 g4 hy
  have OY := Lib.hid (ny.1.grow ((Gw.refl w4).alloc (.cells #[.int .i64 y.k, .int .i64 y.m, .string y.n, .int .i64 y.t.k, .string y.t.n, .slice y.t.a y.t.ks.length y.t.cap, .slice y.na y.ns.length y.nc, .slice y.a y.ks.length y.cap] 50)))
  have BY := BoxM.new w4 y 50
  replace BA := BA.grow ((Gw.refl w4).alloc (.cells #[.int .i64 y.k, .int .i64 y.m, .string y.n, .int .i64 y.t.k, .string y.t.n, .slice y.t.a y.t.ks.length y.t.cap, .slice y.na y.ns.length y.nc, .slice y.a y.ks.length y.cap] 50))
  replace gW := gW.alloc (.cells #[.int .i64 y.k, .int .i64 y.m, .string y.n, .int .i64 y.t.k, .string y.t.n, .slice y.t.a y.t.ks.length y.t.cap, .slice y.na y.ns.length y.nc, .slice y.a y.ks.length y.cap] 50)
  clear ny
  go_upto_region 9 with (fail)
  generalize w4.alloc (.cells #[.int .i64 y.k, .int .i64 y.m, .string y.n, .int .i64 y.t.k, .string y.t.n, .slice y.t.a y.t.ks.length y.t.cap, .slice y.na y.ns.length y.nc, .slice y.a y.ks.length y.cap] 50) = W4 at *
  obtain ⟨q0, q1, q2, q3, q4, q5, q6, q7⟩ := BY.c
  go_wp2_with fail
  refine (impl_usesOf y a1 (by omega) _ OY.out (TB.out.grow gW)).mono ?_
  rw [HY.out]
  rintro e w5 ⟨rfl, g5⟩
  replace BA := BA.grow g5
  replace BY := BY.grow g5
  replace gW := gW.trans g5
  replace OY := Lib.hid (OY.out.grow g5)
  clear q0 q1 q2 q3 q4 q5 q6 q7 g5
  have hneq : (usT a1 a0.tm != usT a1 a0.tm) = false := by simp
  go_upto_region 12 with (fail)
  clear hneq
  obtain ⟨p0, p1, p2, p3, p4, p5, p6, p7⟩ := BA.c
  obtain ⟨q0, q1, q2, q3, q4, q5, q6, q7⟩ := BY.c
  have lA := BA.lt
  have lX := BY.lt
  go_region_held3 (fun W => W.cell? ⟨w4.heap.size, 0, none⟩ = some (.int .i64 y.k) ∧ W.cell? ⟨w4.heap.size, 1, none⟩ = some (.int .i64 y.m) ∧ W.cell? ⟨w4.heap.size, 2, none⟩ = some (.string y.n) ∧ W.cell? ⟨w4.heap.size, 3, none⟩ = some (.int .i64 y.t.k) ∧ W.cell? ⟨w4.heap.size, 4, none⟩ = some (.string y.t.n) ∧ W.cell? ⟨w4.heap.size, 5, none⟩ = some (.slice y.t.a y.t.ks.length y.t.cap) ∧ W.cell? ⟨w4.heap.size, 6, none⟩ = some (.slice y.na y.ns.length y.nc) ∧ W.cell? ⟨w4.heap.size, 7, none⟩ = some (.slice y.a y.ks.length y.cap) ∧ W.cell? ⟨w.heap.size, 0, none⟩ = some (.int .i64 a0.k) ∧ W.cell? ⟨w.heap.size, 1, none⟩ = some (.int .i64 a0.m) ∧ W.cell? ⟨w.heap.size, 2, none⟩ = some (.string a0.n) ∧ W.cell? ⟨w.heap.size, 3, none⟩ = some (.int .i64 a0.t.k) ∧ W.cell? ⟨w.heap.size, 4, none⟩ = some (.string a0.t.n) ∧ W.cell? ⟨w.heap.size, 5, none⟩ = some (.slice a0.t.a a0.t.ks.length a0.t.cap) ∧ W.cell? ⟨w.heap.size, 6, none⟩ = some (.slice a0.na a0.ns.length a0.nc) ∧ W.cell? ⟨w.heap.size, 7, none⟩ = some (.slice a0.a a0.ks.length a0.cap))
    (first | exact ⟨q0, q1, q2, q3, q4, q5, q6, q7, p0, p1, p2, p3, p4, p5, p6, p7⟩ | exact ⟨(k6 _ _ lX).trans q0, (k6 _ _ lX).trans q1, (k6 _ _ lX).trans q2, (k6 _ _ lX).trans q3, (k6 _ _ lX).trans q4, (k6 _ _ lX).trans q5, (k6 _ _ lX).trans q6, (k6 _ _ lX).trans q7, (k6 _ _ lA).trans p0, (k6 _ _ lA).trans p1, (k6 _ _ lA).trans p2, (k6 _ _ lA).trans p3, (k6 _ _ lA).trans p4, (k6 _ _ lA).trans p5, (k6 _ _ lA).trans p6, (k6 _ _ lA).trans p7⟩ | exact ⟨(k7 _ _ lX).trans q0, (k7 _ _ lX).trans q1, (k7 _ _ lX).trans q2, (k7 _ _ lX).trans q3, (k7 _ _ lX).trans q4, (k7 _ _ lX).trans q5, (k7 _ _ lX).trans q6, (k7 _ _ lX).trans q7, (k7 _ _ lA).trans p0, (k7 _ _ lA).trans p1, (k7 _ _ lA).trans p2, (k7 _ _ lA).trans p3, (k7 _ _ lA).trans p4, (k7 _ _ lA).trans p5, (k7 _ _ lA).trans p6, (k7 _ _ lA).trans p7⟩)
    (first
      | (go_at_call 14; refine (laws_toTerm a0 _ (by exact (O0.out.grow gW).drew) hz).mono ?_; rintro e w6 ⟨z, rfl, hz', nz, g6⟩; have HZ := Lib.hid hz'; clear hz'; have k6 : ∀ b o, b < w5.heap.size → w6.cell? ⟨b, o, none⟩ = w5.cell? ⟨b, o, none⟩ := fun b o h => (bcell g6).1 b o h)
      | (go_at_call 16; refine (laws_eqTerm y z _ (by exact OY.out.drew.grow g6) nz.1 (by rw [HY.out, HZ.out])).mono ?_; rintro e w7 ⟨rfl, g7⟩; have k7 : ∀ b o, b < w5.heap.size → w7.cell? ⟨b, o, none⟩ = w5.cell? ⟨b, o, none⟩ := fun b o h => ((bcell g7).1 b o (Nat.lt_of_lt_of_le h g6.size)).trans (k6 b o h)))
  go_wp2_with fail
  go_ret
  exact ⟨rfl, (gW.drew.trans g6).trans g7⟩

set_option maxRecDepth 100000 in
theorem lifted (os : Os) (started : os.Started) (H : Type) (enc : TypeId × Value → H) :
    ReturnsInHanded {} Tryd.checked os 4 .any (fun w args => (Rows.fnExactUsesOfSpec.pre enc Tryd.prog Tryd.f4 Rows.fnExactUsesOfRow.domain false w args ∧ laidMetH Tryd.prog Rows.fnExactUsesOfRow.laid w) ∧ sizedMet enc Tryd.prog Tryd.f4 (OpenSpec.ofChange Rows.fnExactUsesOfSpec) false w args)
      (Rows.fnExactUsesOfSpec.post enc Tryd.prog Tryd.f4 false true false false) := by
  refine returnsInHanded_of_change_and (C := Tryd.checked) (X := fun w _ => laidMetH Tryd.prog Rows.fnExactUsesOfRow.laid w) (fun _ _ _ hh h => h.of_heap hh) own started (by kernel_rfl) Tryd.func4
    (ChangeSpec.witness_shaped (enc := enc) (C := Tryd.checked) (os := os) (X := fun w _ => laidMetH Tryd.prog Rows.fnExactUsesOfRow.laid w) false (World.laidAll Tryd.prog os Rows.fnExactUsesOfRow.laid) #[.agg #[.int .i64 0, .int .i64 0, .string ⟨#[]⟩, .int .i64 0, .string ⟨#[]⟩, .slice none 0 0, .slice none 0 0, .slice none 0 0], .string ⟨#[]⟩] 8 (World.laidAll_os _ _ _)
      (World.shaped_of_ZipB (by kernel_rfl) (by kernel_rfl)) (by kernel_rfl) (by kernel_rfl) (by kernel_rfl)
      (by rw [MakeChecks.laidMetH_plain _ _ _ (by kernel_rfl)]; exact laidMet_laidAll _ (by kernel_rfl) (by kernel_rfl))) ?_
  intro W base args ds gs before hval0 hW _ _ hT _
  have hval : ∀ (j : Nat) t v, Tryd.f4.params[j]? = some t → args[j]? = some v → Value.okWide Tryd.prog W .any base t v := hval0
  have hW' := hW
  obtain ⟨p, q, hA0, hV0, rfl, hfz, hnd⟩ := hW
  have hA : DataW.TrodAll enc Tryd.prog W 0 (fun _ => true) true Tryd.f4.params.toList args.toList ds p := hA0
  rw [Tryd.params4] at hA hval
  obtain ⟨v0, vs0, d0, ds0, p0, q0, hargs, rfl, rfl, h0, r0⟩ := trodAll_cons hA
  obtain ⟨v1, vs1, d1, ds1, p1, q1, rfl, rfl, rfl, h1, r1⟩ := trodAll_cons r0
  obtain ⟨rfl, rfl, rfl⟩ := trodAll_nil r1
  obtain rfl : args = #[v0, v1] := by cases args; simp_all
  obtain ⟨a0, rfl, w0⟩ := open_term (hval 0 42 v0 rfl rfl) h0
  obtain ⟨a1, rfl, rfl, rfl, w1⟩ := open_string Tryd.underlying9 (hval 1 9 v1 rfl rfl) h1
  obtain ⟨g0, rfl⟩ : ∃ g0, gs = [g0] := by
    obtain ⟨g, t, cs, fuel, d, p', rfl, _⟩ := trodVars_one hV0
    exact ⟨d, rfl⟩
  refine (walk W a0 w0 a1 w1 hT).mono fun e W' ⟨he, hg⟩ => ?_
  subst he
  exact ⟨_, rfl, post_law laidOut (by kernel_rfl) (by kernel_rfl) rfl Tryd.underlying4 hW' hg rfl⟩

theorem holds : Rows.FnExactUsesOfSaid :=
  OpenClaim.holds_of_wide 4 Tryd.f4 rfl rfl rfl rfl rfl rfl rfl ⟨rfl, rfl, rfl, rfl, rfl⟩ rfl rfl rfl rfl rfl (by kernel_rfl) Tryd.func4 (by kernel_rfl)
    (of_decide_eq_true (by kernel_rfl)) (by unfold Func.isWrapper; first | (rw [if_pos (by decide +kernel)]; kernel_rfl) | (rw [if_neg (by decide +kernel)]; exact ⟨rfl, rfl⟩))
    (fun os started H enc _ => lifted os started H enc)

/-- The given statement: the tied card. -/
theorem proved : Rows.FnExactUsesOfCardSaid :=
  Claim7.holds_tied_plain_at .later [] [.data] true Rows.fnExactUsesOfCard.stood.harness true holds (fun _ h => by cases h) (by kernel_rfl) (fun _ h => by cases h) fnExactUsesOf_row_tie rfl ⟨rfl, rfl⟩ (by kernel_rfl) rfl
    (fun f fn hf hfn => by
      obtain rfl : f = 4 := Option.some.inj ((show Tryd.prog.funcNamed Rows.fnExactUsesOfRow.func = some 4 by kernel_rfl).symm.trans hf) |>.symm
      obtain rfl : fn = Tryd.f4 := (Option.some.inj (Tryd.func4.symm.trans hfn)).symm
      exact ⟨by kernel_rfl, fun j t ht => by
        rw [Tryd.params4] at ht
        have hm : t ∈ [42, 9] := by simpa using Array.mem_of_getElem? ht
        have hall : ([42, 9].all fun u => !Tryd.prog.wantsStandIn u) = true := by kernel_rfl
        exact (show Tryd.prog.wantsStandIn t = false by simpa using List.all_eq_true.1 hall t hm)⟩)
    (by kernel_rfl)
#print axioms proved
end Go.Proofs.YtkfplnnncfkjfaaDoor.fnExactUsesOf
