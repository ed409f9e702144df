/-
  Proved: for all core terms a and b the law FnExactSameCore returns true and leaves its arguments as they were. No condition.
-/
import Derived.Test.YtbbldkhlclfmkaaKnCore
import Derived.Test.YtbbldkhlclfmkaaCoLw
import Derived.Deep.RegionHeld3
import Derived.Deep.Cut
namespace Go.Proofs.Ytbbldkhlclfmkaa.fnExactSameCore
open Go.ChangeShapes Go.WideShapes Go.ChangeAt Go.RowKit Con
set_option linter.unusedVariables false
theorem own : ownKnob Try.prog.godebug = none := by kernel_rfl
theorem laidOut : laidOutB Try.prog = true := by kernel_rfl

set_option maxHeartbeats 4000000 in
theorem walk (w : World) (a0 : LK) (w0 : a0.Ok w) (a1 : LK) (w1 : a1.Ok w) :
    Calls Try.prog 7 #[a0.val, a1.val] w fun e w' => e = .returned (.bool true) ∧ Gw w w' := by
  have gW : Gw w ((w.alloc (.cells #[.int .i64 a0.k, .int .i64 a0.v, .slice a0.da a0.ds.length a0.dc, .slice a0.a a0.ks.length a0.cap] 61)).alloc (.cells #[.int .i64 a1.k, .int .i64 a1.v, .slice a1.da a1.ds.length a1.dc, .slice a1.a a1.ks.length a1.cap] 61)) := ((Gw.refl w).alloc _).alloc _
  have BA := (BoxK.new w a0 61).grow ((Gw.refl _).alloc (.cells #[.int .i64 a1.k, .int .i64 a1.v, .slice a1.da a1.ds.length a1.dc, .slice a1.a a1.ks.length a1.cap] 61))
  have BB := BoxK.new (w.alloc (.cells #[.int .i64 a0.k, .int .i64 a0.v, .slice a0.da a0.ds.length a0.dc, .slice a0.a a0.ks.length a0.cap] 61)) a1 61
  rw [World.size_alloc] at BB
  have OA := Lib.hid (w0.grow gW)
  have OB := Lib.hid (w1.grow gW)
  go_enter Try.func7, Try.ntmps7
  go_upto_region 2 with (fail)
  generalize ((w.alloc (.cells #[.int .i64 a0.k, .int .i64 a0.v, .slice a0.da a0.ds.length a0.dc, .slice a0.a a0.ks.length a0.cap] 61)).alloc (.cells #[.int .i64 a1.k, .int .i64 a1.v, .slice a1.da a1.ds.length a1.dc, .slice a1.a a1.ks.length a1.cap] 61)) = wA at *
  obtain ⟨p0, p1, p2, p3⟩ := BA.c
  go_wp2_with fail
  refine (laws_szCore a0 _ _ OA.out (by omega) (by omega)).mono ?_
  rintro e wB ⟨he, gB⟩
  subst he
  replace BA := BA.grow gB
  replace BB := BB.grow gB
  replace OA := Lib.hid (OA.out.grow gB)
  replace OB := Lib.hid (OB.out.grow gB)
  replace gW := gW.trans gB
  clear p0 p1 p2 p3 gB
  by_cases hsA : 1048576 < a0.sz
  · have HS : szR 1048576 a0.sz = -1 := if_neg (by omega)
    rw [HS]
    go_wp2_with fail
    go_ret
    exact ⟨rfl, gW⟩
  have HS : szR 1048576 a0.sz = 1048576 - a0.sz := if_pos (by omega)
  rw [HS]
  have hp : ¬ ((1048576 : Int) - a0.sz < 0) := by omega
  clear HS
  obtain ⟨q0, q1, q2, q3⟩ := BB.c
  go_wp2_with fail
  refine (laws_szCore a1 _ _ OB.out (by omega) (by omega)).mono ?_
  rintro e wC ⟨he, gB⟩
  subst he
  replace BA := BA.grow gB
  replace BB := BB.grow gB
  replace OA := Lib.hid (OA.out.grow gB)
  replace OB := Lib.hid (OB.out.grow gB)
  replace gW := gW.trans gB
  clear q0 q1 q2 q3 gB hp
  by_cases hsB : (1048576 : Int) - a0.sz < a1.sz
  · have HS : szR (1048576 - a0.sz) a1.sz = -1 := if_neg (by omega)
    rw [HS]
    go_wp2_with fail
    go_ret
    exact ⟨rfl, gW⟩
  have HS : szR (1048576 - a0.sz) a1.sz = 1048576 - a0.sz - a1.sz := if_pos (by omega)
  rw [HS]
  have hp : ¬ ((1048576 : Int) - a0.sz - a1.sz < 0) := by omega
  clear HS
  have hzA : a0.sz ≤ 1048576 := by omega
  have hzB : a1.sz ≤ 1048576 := by omega
  go_upto_region 8 with (fail)
  clear hp hsA hsB
  obtain ⟨p0, p1, p2, p3⟩ := BA.c
  obtain ⟨q0, q1, q2, q3⟩ := BB.c
  have lA := BA.lt
  have lB := BB.lt
  go_region_held3 (fun W => W.cell? ⟨w.heap.size, 0, none⟩ = some (.int .i64 a0.k) ∧ W.cell? ⟨w.heap.size, 1, none⟩ = some (.int .i64 a0.v) ∧ W.cell? ⟨w.heap.size, 2, none⟩ = some (.slice a0.da a0.ds.length a0.dc) ∧ W.cell? ⟨w.heap.size, 3, none⟩ = some (.slice a0.a a0.ks.length a0.cap) ∧ W.cell? ⟨w.heap.size + 1, 0, none⟩ = some (.int .i64 a1.k) ∧ W.cell? ⟨w.heap.size + 1, 1, none⟩ = some (.int .i64 a1.v) ∧ W.cell? ⟨w.heap.size + 1, 2, none⟩ = some (.slice a1.da a1.ds.length a1.dc) ∧ W.cell? ⟨w.heap.size + 1, 3, none⟩ = some (.slice a1.a a1.ks.length a1.cap))
    (first | exact ⟨p0, p1, p2, p3, q0, q1, q2, q3⟩ | exact ⟨(k2 _ _ lA).trans p0, (k2 _ _ lA).trans p1, (k2 _ _ lA).trans p2, (k2 _ _ lA).trans p3, (k2 _ _ lB).trans q0, (k2 _ _ lB).trans q1, (k2 _ _ lB).trans q2, (k2 _ _ lB).trans q3⟩ | exact ⟨(k3 _ _ lA).trans p0, (k3 _ _ lA).trans p1, (k3 _ _ lA).trans p2, (k3 _ _ lA).trans p3, (k3 _ _ lB).trans q0, (k3 _ _ lB).trans q1, (k3 _ _ lB).trans q2, (k3 _ _ lB).trans q3⟩ | exact ⟨(k4 _ _ lA).trans p0, (k4 _ _ lA).trans p1, (k4 _ _ lA).trans p2, (k4 _ _ lA).trans p3, (k4 _ _ lB).trans q0, (k4 _ _ lB).trans q1, (k4 _ _ lB).trans q2, (k4 _ _ lB).trans q3⟩)
    (first
      | (go_at_call_of 30 (Value.agg #[.int .i64 a0.k, .int .i64 a0.v, .slice a0.da a0.ds.length a0.dc, .slice a0.a a0.ks.length a0.cap]); refine (laws_toCore a0 _ (by exact OA.out.drew) hzA).mono ?_; rintro e w2 ⟨x, rfl, hx, nx, g2⟩; have HX := Lib.hid hx; clear hx; have k2 : ∀ b o, b < wC.heap.size → w2.cell? ⟨b, o, none⟩ = wC.cell? ⟨b, o, none⟩ := fun b o h => (bcell g2).1 b o h)
      | (go_at_call_of 30 (Value.agg #[.int .i64 a1.k, .int .i64 a1.v, .slice a1.da a1.ds.length a1.dc, .slice a1.a a1.ks.length a1.cap]); refine (laws_toCore a1 _ (by exact OB.out.drew.grow g2) hzB).mono ?_; rintro e w3 ⟨y, rfl, hy, ny, g3⟩; have HY := Lib.hid hy; clear hy; have k3 : ∀ b o, b < wC.heap.size → w3.cell? ⟨b, o, none⟩ = wC.cell? ⟨b, o, none⟩ := fun b o h => ((bcell g3).1 b o (Nat.lt_of_lt_of_le h g2.size)).trans (k2 b o h))
      | (go_at_call 29; refine (spec_sameC x y _ (nx.1.grow g3) ny.1).mono ?_; rintro e w4 ⟨r, rfl, hr, g4⟩; have k4 : ∀ b o, b < wC.heap.size → w4.cell? ⟨b, o, none⟩ = wC.cell? ⟨b, o, none⟩ := fun b o h => ((bcell g4).1 b o (Nat.lt_of_lt_of_le h (Nat.le_trans g2.size g3.size))).trans (k3 b o h)))
  rw [HX.out, HY.out] at hr
  have HR := Lib.hid hr
  have gA : Gw wC w4 := (((Gw.refl wC).drew.trans g2).trans g3).trans g4
  replace BA := BA.grow gA
  replace BB := BB.grow gA
  replace OA := Lib.hid (OA.out.grow gA)
  replace OB := Lib.hid (OB.out.grow gA)
  replace gW := gW.trans gA
  clear p0 p1 p2 p3 q0 q1 q2 q3 k2 k3 k4 g2 g3 g4 gA hr HX HY nx ny lA lB
  obtain ⟨p0, p1, p2, p3⟩ := BA.c
  go_wp2_with fail
  refine (laws_toCore a0 _ OA.out hzA).mono ?_
  rintro e w5 ⟨x', rfl, hx, nx, g5⟩
  have HX := Lib.hid hx
  clear p0 p1 p2 p3 hx
  go_upto_region 10 with (fail)
  have gA : Gw w4 (w5.alloc (.cells #[.int .i64 x'.k, .int .i64 x'.v, .slice x'.da x'.ds.length x'.dc, .slice x'.a x'.ks.length x'.cap] 66)) := g5.alloc _
  replace BA := BA.grow gA
  replace BB := BB.grow gA
  replace OA := Lib.hid (OA.out.grow gA)
  replace OB := Lib.hid (OB.out.grow gA)
  replace gW := gW.trans gA
  have BX := BoxK.new w5 x' 66
  have NX := Lib.hid (nx.grow coGr ((Gw.refl w5).alloc (.cells #[.int .i64 x'.k, .int .i64 x'.v, .slice x'.da x'.ds.length x'.dc, .slice x'.a x'.ks.length x'.cap] 66)))
  clear gA g5 nx
  generalize w5.alloc (.cells #[.int .i64 x'.k, .int .i64 x'.v, .slice x'.da x'.ds.length x'.dc, .slice x'.a x'.ks.length x'.cap] 66) = W5 at *
  obtain ⟨q0, q1, q2, q3⟩ := BB.c
  go_wp2_with fail
  refine (laws_toCore a1 _ OB.out hzB).mono ?_
  rintro e w6 ⟨y', rfl, hy, ny, g6⟩
  have HY := Lib.hid hy
  clear q0 q1 q2 q3 hy
  go_upto_region 11 with (fail)
  have gA : Gw W5 (w6.alloc (.cells #[.int .i64 y'.k, .int .i64 y'.v, .slice y'.da y'.ds.length y'.dc, .slice y'.a y'.ks.length y'.cap] 66)) := g6.alloc _
  replace BA := BA.grow gA
  replace BB := BB.grow gA
  replace OA := Lib.hid (OA.out.grow gA)
  replace OB := Lib.hid (OB.out.grow gA)
  replace gW := gW.trans gA
  replace BX := BX.grow gA
  replace NX := Lib.hid (gNew.grow coGr NX.out gA)
  have BY := BoxK.new w6 y' 66
  have NY := Lib.hid (ny.grow coGr ((Gw.refl w6).alloc (.cells #[.int .i64 y'.k, .int .i64 y'.v, .slice y'.da y'.ds.length y'.dc, .slice y'.a y'.ks.length y'.cap] 66)))
  clear gA g6 ny
  generalize w6.alloc (.cells #[.int .i64 y'.k, .int .i64 y'.v, .slice y'.da y'.ds.length y'.dc, .slice y'.a y'.ks.length y'.cap] 66) = W6 at *
  obtain ⟨p0, p1, p2, p3⟩ := BX.c
  obtain ⟨q0, q1, q2, q3⟩ := BY.c
  go_wp2_with fail
  refine (KCore.impl_same x' y' _ (KCore.FOk.new NX.out) (KCore.FOk.new NY.out)).mono ?_
  rintro e w7 ⟨r', rfl, hr, g7⟩
  rw [HX.out, HY.out] at hr
  obtain rfl : r' = r := Bool.eq_iff_iff.2 (hr.trans HR.out.symm)
  replace BA := BA.grow g7
  replace BB := BB.grow g7
  replace OA := Lib.hid (OA.out.grow g7)
  replace OB := Lib.hid (OB.out.grow g7)
  replace gW := gW.trans g7
  replace BX := BX.grow g7
  replace BY := BY.grow g7
  replace NX := Lib.hid (gNew.grow coGr NX.out g7)
  replace NY := Lib.hid (gNew.grow coGr NY.out g7)
  clear p0 p1 p2 p3 q0 q1 q2 q3 hr HR g7
  go_upto_region 14 with (fail)
  obtain ⟨p0, p1, p2, p3⟩ := BA.c
  obtain ⟨q0, q1, q2, q3⟩ := BX.c
  have lA := BA.lt
  have lX := BX.lt
  go_region_held3 (fun W => W.cell? ⟨w.heap.size, 0, none⟩ = some (.int .i64 a0.k) ∧ W.cell? ⟨w.heap.size, 1, none⟩ = some (.int .i64 a0.v) ∧ W.cell? ⟨w.heap.size, 2, none⟩ = some (.slice a0.da a0.ds.length a0.dc) ∧ W.cell? ⟨w.heap.size, 3, none⟩ = some (.slice a0.a a0.ks.length a0.cap) ∧ W.cell? ⟨w5.heap.size, 0, none⟩ = some (.int .i64 x'.k) ∧ W.cell? ⟨w5.heap.size, 1, none⟩ = some (.int .i64 x'.v) ∧ W.cell? ⟨w5.heap.size, 2, none⟩ = some (.slice x'.da x'.ds.length x'.dc) ∧ W.cell? ⟨w5.heap.size, 3, none⟩ = some (.slice x'.a x'.ks.length x'.cap))
    (first | exact ⟨p0, p1, p2, p3, q0, q1, q2, q3⟩ | exact ⟨(k2 _ _ lA).trans p0, (k2 _ _ lA).trans p1, (k2 _ _ lA).trans p2, (k2 _ _ lA).trans p3, (k2 _ _ lX).trans q0, (k2 _ _ lX).trans q1, (k2 _ _ lX).trans q2, (k2 _ _ lX).trans q3⟩ | exact ⟨(k3 _ _ lA).trans p0, (k3 _ _ lA).trans p1, (k3 _ _ lA).trans p2, (k3 _ _ lA).trans p3, (k3 _ _ lX).trans q0, (k3 _ _ lX).trans q1, (k3 _ _ lX).trans q2, (k3 _ _ lX).trans q3⟩)
    (first
      | (go_at_call 30; refine (laws_toCore a0 _ (by exact OA.out.drew) hzA).mono ?_; rintro e w8 ⟨z, rfl, hz, nz, g8⟩; have HZ := Lib.hid hz; clear hz; have k2 : ∀ b o, b < w7.heap.size → w8.cell? ⟨b, o, none⟩ = w7.cell? ⟨b, o, none⟩ := fun b o h => (bcell g8).1 b o h)
      | (go_at_call 32; refine (laws_eqCore x' z _ (by exact NX.out.1.drew.grow g8) nz.1 (by rw [HX.out, HZ.out])).mono ?_; rintro e w9 ⟨rfl, g9⟩; have k3 : ∀ b o, b < w7.heap.size → w9.cell? ⟨b, o, none⟩ = w7.cell? ⟨b, o, none⟩ := fun b o h => ((bcell g9).1 b o (Nat.lt_of_lt_of_le h g8.size)).trans (k2 b o h)))
  have gA : Gw w7 w9 := ((Gw.refl w7).drew.trans g8).trans g9
  replace BB := BB.grow gA
  replace OB := Lib.hid (OB.out.grow gA)
  replace gW := gW.trans gA
  replace BY := BY.grow gA
  replace NY := Lib.hid (gNew.grow coGr NY.out gA)
  clear p0 p1 p2 p3 q0 q1 q2 q3 k2 k3 g8 g9 gA lA lX BA BX NX OA HZ nz
  go_upto_region 16 with (fail)
  obtain ⟨p0, p1, p2, p3⟩ := BB.c
  obtain ⟨q0, q1, q2, q3⟩ := BY.c
  have lA := BB.lt
  have lX := BY.lt
  go_region_held3 (fun W => W.cell? ⟨w.heap.size + 1, 0, none⟩ = some (.int .i64 a1.k) ∧ W.cell? ⟨w.heap.size + 1, 1, none⟩ = some (.int .i64 a1.v) ∧ W.cell? ⟨w.heap.size + 1, 2, none⟩ = some (.slice a1.da a1.ds.length a1.dc) ∧ W.cell? ⟨w.heap.size + 1, 3, none⟩ = some (.slice a1.a a1.ks.length a1.cap) ∧ W.cell? ⟨w6.heap.size, 0, none⟩ = some (.int .i64 y'.k) ∧ W.cell? ⟨w6.heap.size, 1, none⟩ = some (.int .i64 y'.v) ∧ W.cell? ⟨w6.heap.size, 2, none⟩ = some (.slice y'.da y'.ds.length y'.dc) ∧ W.cell? ⟨w6.heap.size, 3, none⟩ = some (.slice y'.a y'.ks.length y'.cap))
    (first | exact ⟨p0, p1, p2, p3, q0, q1, q2, q3⟩ | exact ⟨(k2 _ _ lA).trans p0, (k2 _ _ lA).trans p1, (k2 _ _ lA).trans p2, (k2 _ _ lA).trans p3, (k2 _ _ lX).trans q0, (k2 _ _ lX).trans q1, (k2 _ _ lX).trans q2, (k2 _ _ lX).trans q3⟩ | exact ⟨(k3 _ _ lA).trans p0, (k3 _ _ lA).trans p1, (k3 _ _ lA).trans p2, (k3 _ _ lA).trans p3, (k3 _ _ lX).trans q0, (k3 _ _ lX).trans q1, (k3 _ _ lX).trans q2, (k3 _ _ lX).trans q3⟩)
    (first
      | (go_at_call 30; refine (laws_toCore a1 _ (by exact OB.out.drew) hzB).mono ?_; rintro e w10 ⟨z, rfl, hz, nz, g8⟩; have HZ := Lib.hid hz; clear hz; have k2 : ∀ b o, b < w9.heap.size → w10.cell? ⟨b, o, none⟩ = w9.cell? ⟨b, o, none⟩ := fun b o h => (bcell g8).1 b o h)
      | (go_at_call 32; refine (laws_eqCore y' z _ (by exact NY.out.1.drew.grow g8) nz.1 (by rw [HY.out, HZ.out])).mono ?_; rintro e w11 ⟨rfl, g9⟩; have k3 : ∀ b o, b < w9.heap.size → w11.cell? ⟨b, o, none⟩ = w9.cell? ⟨b, o, none⟩ := fun b o h => ((bcell g9).1 b o (Nat.lt_of_lt_of_le h g8.size)).trans (k2 b o h)))
  go_wp2_with fail
  go_ret
  exact ⟨rfl, (gW.drew.trans g8).trans g9⟩

set_option maxRecDepth 100000 in
theorem lifted (os : Os) (started : os.Started) (H : Type) (enc : TypeId × Value → H) :
    ReturnsInHanded {} Try.checked os 7 .any (Rows.fnExactSameCoreSpec.pre6 enc Try.prog Try.f7 Rows.fnExactSameCoreRow.domain false) (Rows.fnExactSameCoreSpec.post enc Try.prog Try.f7 false true false false) := by
  refine returnsInHanded_of_change (C := Try.checked) own started (by kernel_rfl) Try.func7
    (ChangeSpec.witness6 (enc := enc) (C := Try.checked) false ⟨#[], #[.agg #[.int .i64 0, .int .i64 0, .slice none 0 0, .slice none 0 0], .agg #[.int .i64 0, .int .i64 0, .slice none 0 0, .slice none 0 0]], []⟩ 8 (by kernel_rfl) (by kernel_rfl) (by kernel_rfl) (by kernel_rfl)) ?_
  intro W base args ds gs before hval0 hW _ _
  have hval : ∀ (j : Nat) t v, Try.f7.params[j]? = some t → args[j]? = some v → Value.okWide Try.prog W .any base t v := hval0
  have hW' := hW
  obtain ⟨p, q, hA0, hV0, rfl, hfz, hnd⟩ := hW
  have hA : DataW.TrodAll enc Try.prog W 0 (fun _ => true) true Try.f7.params.toList args.toList ds p := hA0
  rw [Try.params7] at hA hval
  obtain ⟨v0, vs0, d0, ds0, p0, q0, hargs, rfl, rfl, h0, r0⟩ := trodAll_cons hA
  obtain ⟨v1, vs1, d1, ds1, p1, q1, rfl, rfl, rfl, h1, r1⟩ := trodAll_cons r0
  obtain ⟨rfl, rfl, rfl⟩ := trodAll_nil r1
  obtain rfl : args = #[v0, v1] := by cases args; simp_all
  obtain ⟨a0, rfl, w0⟩ := open_core (hval 0 61 v0 rfl rfl) h0
  obtain ⟨a1, rfl, w1⟩ := open_core (hval 1 61 v1 rfl rfl) h1
  obtain ⟨rfl, rfl⟩ := trodVars_none hV0
  refine (walk W a0 w0 a1 w1).mono fun e W' ⟨he, hg⟩ => ?_
  subst he
  exact ⟨_, rfl, post_law laidOut (by kernel_rfl) (by kernel_rfl) rfl Try.underlying4 hW' hg rfl⟩

theorem proved : Rows.FnExactSameCoreSaid :=
  OpenClaim.holds_of_wide 7 Try.f7 rfl rfl rfl rfl rfl rfl rfl ⟨rfl, rfl, rfl, rfl, rfl⟩ rfl rfl rfl rfl rfl (by kernel_rfl) Try.func7 (by kernel_rfl)
    (of_decide_eq_true (by kernel_rfl)) (by unfold Func.isWrapper; first | (rw [if_pos (by decide +kernel)]; kernel_rfl) | (rw [if_neg (by decide +kernel)]; exact ⟨rfl, rfl⟩))
    (fun os started H enc _ => lifted os started H enc)
#print axioms proved
end Go.Proofs.Ytbbldkhlclfmkaa.fnExactSameCore
