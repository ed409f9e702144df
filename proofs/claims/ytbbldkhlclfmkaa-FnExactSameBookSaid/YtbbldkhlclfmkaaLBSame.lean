/-
  Proved: for all books a and b the law FnExactSameBook returns true and leaves its arguments as they were. No condition.
-/
import Derived.Test.YtbbldkhlclfmkaaKbCore
import Derived.Test.YtbbldkhlclfmkaaCoLw
import Derived.Deep.RegionHeld3
import Derived.Deep.Cut
namespace Go.Proofs.Ytbbldkhlclfmkaa.fnExactSameBook
open Go.ChangeShapes Go.WideShapes Go.ChangeAt Go.RowKit Con
set_option linter.unusedVariables false
theorem own : ownKnob Try.prog.godebug = none := by kernel_rfl
theorem laidOut : laidOutB Try.prog = true := by kernel_rfl

set_option maxHeartbeats 4000000 in
theorem walk (w : World) (a0 : LB) (w0 : bOk w a0) (a1 : LB) (w1 : bOk w a1) :
    Calls Try.prog 8 #[a0.val, a1.val] w fun e w' => e = .returned (.bool true) ∧ Gw w w' := by
  have gW : Gw w ((w.alloc (.cells #[.slice a0.a a0.ks.length a0.cap] 70)).alloc (.cells #[.slice a1.a a1.ks.length a1.cap] 70)) := ((Gw.refl w).alloc _).alloc _
  have BA := (BoxB.new w a0 70).grow ((Gw.refl _).alloc (.cells #[.slice a1.a a1.ks.length a1.cap] 70))
  have BB := BoxB.new (w.alloc (.cells #[.slice a0.a a0.ks.length a0.cap] 70)) a1 70
  rw [World.size_alloc] at BB
  have OA := Lib.hid (w0.grow gW)
  have OB := Lib.hid (w1.grow gW)
  go_enter Try.func8, Try.ntmps8
  go_upto_region 2 with (fail)
  generalize ((w.alloc (.cells #[.slice a0.a a0.ks.length a0.cap] 70)).alloc (.cells #[.slice a1.a a1.ks.length a1.cap] 70)) = wA at *
  have p0 := BA.c
  go_wp2_with fail
  refine (laws_szBook a0 _ _ OA.out (by omega) (by omega)).mono ?_
  rintro e wB ⟨he, gB⟩
  subst he
  replace BA := BA.grow gB
  replace BB := BB.grow gB
  replace OA := Lib.hid (OA.out.grow gB)
  replace OB := Lib.hid (OB.out.grow gB)
  replace gW := gW.trans gB
  clear p0 gB
  by_cases hsA : 1048576 < a0.sz
  · have HS : szR 1048576 a0.sz = -1 := if_neg (by omega)
    rw [HS]
    go_wp2_with fail
    go_ret
    exact ⟨rfl, gW⟩
  have HS : szR 1048576 a0.sz = 1048576 - a0.sz := if_pos (by omega)
  rw [HS]
  have hp : ¬ ((1048576 : Int) - a0.sz < 0) := by omega
  clear HS
  have q0 := BB.c
  go_wp2_with fail
  refine (laws_szBook a1 _ _ OB.out (by omega) (by omega)).mono ?_
  rintro e wC ⟨he, gB⟩
  subst he
  replace BA := BA.grow gB
  replace BB := BB.grow gB
  replace OA := Lib.hid (OA.out.grow gB)
  replace OB := Lib.hid (OB.out.grow gB)
  replace gW := gW.trans gB
  clear q0 gB hp
  by_cases hsB : (1048576 : Int) - a0.sz < a1.sz
  · have HS : szR (1048576 - a0.sz) a1.sz = -1 := if_neg (by omega)
    rw [HS]
    go_wp2_with fail
    go_ret
    exact ⟨rfl, gW⟩
  have HS : szR (1048576 - a0.sz) a1.sz = 1048576 - a0.sz - a1.sz := if_pos (by omega)
  rw [HS]
  have hp : ¬ ((1048576 : Int) - a0.sz - a1.sz < 0) := by omega
  clear HS
  have hzA : a0.sz ≤ 1048576 := by omega
  have hzB : a1.sz ≤ 1048576 := by omega
  go_upto_region 8 with (fail)
  clear hp hsA hsB
  have p0 := BA.c
  have q0 := BB.c
  have lA := BA.lt
  have lB := BB.lt
  go_region_held3 (fun W => W.cell? ⟨w.heap.size, 0, none⟩ = some (.slice a0.a a0.ks.length a0.cap) ∧ W.cell? ⟨w.heap.size + 1, 0, none⟩ = some (.slice a1.a a1.ks.length a1.cap))
    (first | exact ⟨p0, q0⟩ | exact ⟨(k2 _ _ lA).trans p0, (k2 _ _ lB).trans q0⟩ | exact ⟨(k3 _ _ lA).trans p0, (k3 _ _ lB).trans q0⟩ | exact ⟨(k4 _ _ lA).trans p0, (k4 _ _ lB).trans q0⟩)
    (first
      | (go_at_call_of 35 (Value.agg #[.slice a0.a a0.ks.length a0.cap]); refine (laws_toBook a0 _ (by exact OA.out.drew) hzA).mono ?_; rintro e w2 ⟨x, rfl, hx, nx, g2⟩; have HX := Lib.hid hx; clear hx; have k2 : ∀ b o, b < wC.heap.size → w2.cell? ⟨b, o, none⟩ = wC.cell? ⟨b, o, none⟩ := fun b o h => (bcell g2).1 b o h)
      | (go_at_call_of 35 (Value.agg #[.slice a1.a a1.ks.length a1.cap]); refine (laws_toBook a1 _ (by exact OB.out.drew.grow g2) hzB).mono ?_; rintro e w3 ⟨y, rfl, hy, ny, g3⟩; have HY := Lib.hid hy; clear hy; have k3 : ∀ b o, b < wC.heap.size → w3.cell? ⟨b, o, none⟩ = wC.cell? ⟨b, o, none⟩ := fun b o h => ((bcell g3).1 b o (Nat.lt_of_lt_of_le h g2.size)).trans (k2 b o h))
      | (go_at_call 34; refine (KCore.spec_sameB x y _ ((show bOk _ x from nx.1).grow g3) ny.1).mono ?_; rintro e w4 ⟨r, rfl, hr, g4⟩; have k4 : ∀ b o, b < wC.heap.size → w4.cell? ⟨b, o, none⟩ = wC.cell? ⟨b, o, none⟩ := fun b o h => ((bcell g4).1 b o (Nat.lt_of_lt_of_le h (Nat.le_trans g2.size g3.size))).trans (k3 b o h)))
  rw [HX.out, HY.out] at hr
  have HR := Lib.hid hr
  have gA : Gw wC w4 := (((Gw.refl wC).drew.trans g2).trans g3).trans g4
  replace BA := BA.grow gA
  replace BB := BB.grow gA
  replace OA := Lib.hid (OA.out.grow gA)
  replace OB := Lib.hid (OB.out.grow gA)
  replace gW := gW.trans gA
  clear p0 q0 k2 k3 k4 g2 g3 g4 gA hr HX HY nx ny lA lB
  have p0 := BA.c
  go_wp2_with fail
  refine (laws_toBook a0 _ OA.out hzA).mono ?_
  rintro e w5 ⟨x', rfl, hx, nx, g5⟩
  have HX := Lib.hid hx
  clear p0 hx
  go_upto_region 10 with (fail)
  have gA : Gw w4 (w5.alloc (.cells #[.slice x'.a x'.ks.length x'.cap] 74)) := g5.alloc _
  replace BA := BA.grow gA
  replace BB := BB.grow gA
  replace OA := Lib.hid (OA.out.grow gA)
  replace OB := Lib.hid (OB.out.grow gA)
  replace gW := gW.trans gA
  have BX := BoxB.new w5 x' 74
  have NX := Lib.hid (bnew_grow nx ((Gw.refl w5).alloc (.cells #[.slice x'.a x'.ks.length x'.cap] 74)))
  clear gA g5 nx
  generalize w5.alloc (.cells #[.slice x'.a x'.ks.length x'.cap] 74) = W5 at *
  have q0 := BB.c
  go_wp2_with fail
  refine (laws_toBook a1 _ OB.out hzB).mono ?_
  rintro e w6 ⟨y', rfl, hy, ny, g6⟩
  have HY := Lib.hid hy
  clear q0 hy
  go_upto_region 11 with (fail)
  have gA : Gw W5 (w6.alloc (.cells #[.slice y'.a y'.ks.length y'.cap] 74)) := g6.alloc _
  replace BA := BA.grow gA
  replace BB := BB.grow gA
  replace OA := Lib.hid (OA.out.grow gA)
  replace OB := Lib.hid (OB.out.grow gA)
  replace gW := gW.trans gA
  replace BX := BX.grow gA
  replace NX := Lib.hid (bnew_grow NX.out gA)
  have BY := BoxB.new w6 y' 74
  have NY := Lib.hid (bnew_grow ny ((Gw.refl w6).alloc (.cells #[.slice y'.a y'.ks.length y'.cap] 74)))
  clear gA g6 ny
  generalize w6.alloc (.cells #[.slice y'.a y'.ks.length y'.cap] 74) = W6 at *
  have p0 := BX.c
  have q0 := BY.c
  go_wp2_with fail
  refine (KCore.impl_sameB x' y' _ (KCore.BF.new NX.out) (KCore.BF.new NY.out)).mono ?_
  rintro e w7 ⟨r', rfl, hr, g7⟩
  rw [HX.out, HY.out] at hr
  obtain rfl : r' = r := Bool.eq_iff_iff.2 (hr.trans HR.out.symm)
  replace BA := BA.grow g7
  replace BB := BB.grow g7
  replace OA := Lib.hid (OA.out.grow g7)
  replace OB := Lib.hid (OB.out.grow g7)
  replace gW := gW.trans g7
  replace BX := BX.grow g7
  replace BY := BY.grow g7
  replace NX := Lib.hid (bnew_grow NX.out g7)
  replace NY := Lib.hid (bnew_grow NY.out g7)
  clear p0 q0 hr HR g7
  go_upto_region 14 with (fail)
  have p0 := BA.c
  have q0 := BX.c
  have lA := BA.lt
  have lX := BX.lt
  go_region_held3 (fun W => W.cell? ⟨w.heap.size, 0, none⟩ = some (.slice a0.a a0.ks.length a0.cap) ∧ W.cell? ⟨w5.heap.size, 0, none⟩ = some (.slice x'.a x'.ks.length x'.cap))
    (first | exact ⟨p0, q0⟩ | exact ⟨(k2 _ _ lA).trans p0, (k2 _ _ lX).trans q0⟩ | exact ⟨(k3 _ _ lA).trans p0, (k3 _ _ lX).trans q0⟩)
    (first
      | (go_at_call 35; refine (laws_toBook a0 _ (by exact OA.out.drew) hzA).mono ?_; rintro e w8 ⟨z, rfl, hz, nz, g8⟩; have HZ := Lib.hid hz; clear hz; have k2 : ∀ b o, b < w7.heap.size → w8.cell? ⟨b, o, none⟩ = w7.cell? ⟨b, o, none⟩ := fun b o h => (bcell g8).1 b o h)
      | (go_at_call 37; refine (laws_eqBook x' z _ (by exact (show bOk _ x' from NX.out.1).drew.grow g8) nz.1 (by rw [HX.out, HZ.out])).mono ?_; rintro e w9 ⟨rfl, g9⟩; have k3 : ∀ b o, b < w7.heap.size → w9.cell? ⟨b, o, none⟩ = w7.cell? ⟨b, o, none⟩ := fun b o h => ((bcell g9).1 b o (Nat.lt_of_lt_of_le h g8.size)).trans (k2 b o h)))
  have gA : Gw w7 w9 := ((Gw.refl w7).drew.trans g8).trans g9
  replace BB := BB.grow gA
  replace OB := Lib.hid (OB.out.grow gA)
  replace gW := gW.trans gA
  replace BY := BY.grow gA
  replace NY := Lib.hid (bnew_grow NY.out gA)
  clear p0 q0 k2 k3 g8 g9 gA lA lX BA BX NX OA HZ nz
  go_upto_region 16 with (fail)
  have p0 := BB.c
  have q0 := BY.c
  have lA := BB.lt
  have lX := BY.lt
  go_region_held3 (fun W => W.cell? ⟨w.heap.size + 1, 0, none⟩ = some (.slice a1.a a1.ks.length a1.cap) ∧ W.cell? ⟨w6.heap.size, 0, none⟩ = some (.slice y'.a y'.ks.length y'.cap))
    (first | exact ⟨p0, q0⟩ | exact ⟨(k2 _ _ lA).trans p0, (k2 _ _ lX).trans q0⟩ | exact ⟨(k3 _ _ lA).trans p0, (k3 _ _ lX).trans q0⟩)
    (first
      | (go_at_call 35; refine (laws_toBook a1 _ (by exact OB.out.drew) hzB).mono ?_; rintro e w10 ⟨z, rfl, hz, nz, g8⟩; have HZ := Lib.hid hz; clear hz; have k2 : ∀ b o, b < w9.heap.size → w10.cell? ⟨b, o, none⟩ = w9.cell? ⟨b, o, none⟩ := fun b o h => (bcell g8).1 b o h)
      | (go_at_call 37; refine (laws_eqBook y' z _ (by exact (show bOk _ y' from NY.out.1).drew.grow g8) nz.1 (by rw [HY.out, HZ.out])).mono ?_; rintro e w11 ⟨rfl, g9⟩; have k3 : ∀ b o, b < w9.heap.size → w11.cell? ⟨b, o, none⟩ = w9.cell? ⟨b, o, none⟩ := fun b o h => ((bcell g9).1 b o (Nat.lt_of_lt_of_le h g8.size)).trans (k2 b o h)))
  go_wp2_with fail
  go_ret
  exact ⟨rfl, (gW.drew.trans g8).trans g9⟩

set_option maxRecDepth 100000 in
theorem lifted (os : Os) (started : os.Started) (H : Type) (enc : TypeId × Value → H) :
    ReturnsInHanded {} Try.checked os 8 .any (Rows.fnExactSameBookSpec.pre6 enc Try.prog Try.f8 Rows.fnExactSameBookRow.domain false) (Rows.fnExactSameBookSpec.post enc Try.prog Try.f8 false true false false) := by
  refine returnsInHanded_of_change (C := Try.checked) own started (by kernel_rfl) Try.func8
    (ChangeSpec.witness6 (enc := enc) (C := Try.checked) false ⟨#[], #[.agg #[.slice none 0 0], .agg #[.slice none 0 0]], []⟩ 8 (by kernel_rfl) (by kernel_rfl) (by kernel_rfl) (by kernel_rfl)) ?_
  intro W base args ds gs before hval0 hW _ _
  have hval : ∀ (j : Nat) t v, Try.f8.params[j]? = some t → args[j]? = some v → Value.okWide Try.prog W .any base t v := hval0
  have hW' := hW
  obtain ⟨p, q, hA0, hV0, rfl, hfz, hnd⟩ := hW
  have hA : DataW.TrodAll enc Try.prog W 0 (fun _ => true) true Try.f8.params.toList args.toList ds p := hA0
  rw [Try.params8] at hA hval
  obtain ⟨v0, vs0, d0, ds0, p0, q0, hargs, rfl, rfl, h0, r0⟩ := trodAll_cons hA
  obtain ⟨v1, vs1, d1, ds1, p1, q1, rfl, rfl, rfl, h1, r1⟩ := trodAll_cons r0
  obtain ⟨rfl, rfl, rfl⟩ := trodAll_nil r1
  obtain rfl : args = #[v0, v1] := by cases args; simp_all
  obtain ⟨a0, rfl, w0⟩ := open_book (hval 0 70 v0 rfl rfl) h0
  obtain ⟨a1, rfl, w1⟩ := open_book (hval 1 70 v1 rfl rfl) h1
  obtain ⟨rfl, rfl⟩ := trodVars_none hV0
  refine (walk W a0 w0 a1 w1).mono fun e W' ⟨he, hg⟩ => ?_
  subst he
  exact ⟨_, rfl, post_law laidOut (by kernel_rfl) (by kernel_rfl) rfl Try.underlying4 hW' hg rfl⟩

theorem proved : Rows.FnExactSameBookSaid :=
  OpenClaim.holds_of_wide 8 Try.f8 rfl rfl rfl rfl rfl rfl rfl ⟨rfl, rfl, rfl, rfl, rfl⟩ rfl rfl rfl rfl rfl (by kernel_rfl) Try.func8 (by kernel_rfl)
    (of_decide_eq_true (by kernel_rfl)) (by unfold Func.isWrapper; first | (rw [if_pos (by decide +kernel)]; kernel_rfl) | (rw [if_neg (by decide +kernel)]; exact ⟨rfl, rfl⟩))
    (fun os started H enc _ => lifted os started H enc)
#print axioms proved
end Go.Proofs.Ytbbldkhlclfmkaa.fnExactSameBook
