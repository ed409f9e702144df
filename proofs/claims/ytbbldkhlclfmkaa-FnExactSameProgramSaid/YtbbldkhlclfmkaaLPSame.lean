/-
  Proved: for all programs a and b the law FnExactSameProgram returns true and leaves its arguments as they were. No condition.
-/
import Derived.Test.YtbbldkhlclfmkaaPgI
import Derived.Test.YtbbldkhlclfmkaaDfEq
import Derived.Deep.RegionHeld3
import Derived.Deep.Cut
namespace Go.Proofs.Ytbbldkhlclfmkaa.fnExactSameProgram
open Go.ChangeShapes Go.WideShapes Go.ChangeAt Go.RowKit Con
set_option linter.unusedVariables false
theorem own : ownKnob Try.prog.godebug = none := by kernel_rfl
theorem laidOut : laidOutB Try.prog = true := by kernel_rfl

set_option maxHeartbeats 4000000 in
theorem walk (w : World) (a0 : LP) (w0 : pOk w a0) (a1 : LP) (w1 : pOk w a1) :
    Calls Try.prog 6 #[a0.val, a1.val] w fun e w' => e = .returned (.bool true) ∧ Gw w w' := by
  have gW : Gw w ((w.alloc (.cells #[.slice a0.da a0.ds.length a0.dc, .slice a0.fa a0.fs.length a0.fc] 49)).alloc (.cells #[.slice a1.da a1.ds.length a1.dc, .slice a1.fa a1.fs.length a1.fc] 49)) := ((Gw.refl w).alloc _).alloc _
  have BA := (BoxV.new w #[.slice a0.da a0.ds.length a0.dc, .slice a0.fa a0.fs.length a0.fc] 49).grow ((Gw.refl _).alloc (.cells #[.slice a1.da a1.ds.length a1.dc, .slice a1.fa a1.fs.length a1.fc] 49))
  have BB := BoxV.new (w.alloc (.cells #[.slice a0.da a0.ds.length a0.dc, .slice a0.fa a0.fs.length a0.fc] 49)) #[.slice a1.da a1.ds.length a1.dc, .slice a1.fa a1.fs.length a1.fc] 49
  rw [World.size_alloc] at BB
  have OA := Lib.hid (w0.grow gW)
  have OB := Lib.hid (w1.grow gW)
  go_enter Try.func6, Try.ntmps6
  go_upto_region 2 with (fail)
  generalize ((w.alloc (.cells #[.slice a0.da a0.ds.length a0.dc, .slice a0.fa a0.fs.length a0.fc] 49)).alloc (.cells #[.slice a1.da a1.ds.length a1.dc, .slice a1.fa a1.fs.length a1.fc] 49)) = wA at *
  obtain ⟨p0, p1⟩ := BA.two
  go_wp2_with fail
  refine (laws_szProgram a0 _ _ OA.out (by omega) (by omega)).mono ?_
  rintro e wB ⟨he, gB⟩
  subst he
  replace BA := BA.grow gB
  replace BB := BB.grow gB
  replace OA := Lib.hid (OA.out.grow gB)
  replace OB := Lib.hid (OB.out.grow gB)
  replace gW := gW.trans gB
  clear p0 p1 gB
  by_cases hsA : 1048576 < a0.sz
  · have HS : szR 1048576 a0.sz = -1 := if_neg (by omega)
    rw [HS]
    go_wp2_with fail
    go_ret
    exact ⟨rfl, gW⟩
  have HS : szR 1048576 a0.sz = 1048576 - a0.sz := if_pos (by omega)
  rw [HS]
  have hp : ¬ ((1048576 : Int) - a0.sz < 0) := by omega
  clear HS
  obtain ⟨q0, q1⟩ := BB.two
  go_wp2_with fail
  refine (laws_szProgram a1 _ _ OB.out (by omega) (by omega)).mono ?_
  rintro e wC ⟨he, gB⟩
  subst he
  replace BA := BA.grow gB
  replace BB := BB.grow gB
  replace OA := Lib.hid (OA.out.grow gB)
  replace OB := Lib.hid (OB.out.grow gB)
  replace gW := gW.trans gB
  clear q0 q1 gB hp
  by_cases hsB : (1048576 : Int) - a0.sz < a1.sz
  · have HS : szR (1048576 - a0.sz) a1.sz = -1 := if_neg (by omega)
    rw [HS]
    go_wp2_with fail
    go_ret
    exact ⟨rfl, gW⟩
  have HS : szR (1048576 - a0.sz) a1.sz = 1048576 - a0.sz - a1.sz := if_pos (by omega)
  rw [HS]
  have hp : ¬ ((1048576 : Int) - a0.sz - a1.sz < 0) := by omega
  clear HS
  have hzA : a0.sz ≤ 1048576 := by omega
  have hzB : a1.sz ≤ 1048576 := by omega
  go_upto_region 8 with (fail)
  clear hp hsA hsB
  obtain ⟨p0, p1⟩ := BA.two
  obtain ⟨q0, q1⟩ := BB.two
  have lA := BA.lt
  have lB := BB.lt
  go_region_held3 (fun W => W.cell? ⟨w.heap.size, 0, none⟩ = some (.slice a0.da a0.ds.length a0.dc) ∧ W.cell? ⟨w.heap.size, 1, none⟩ = some (.slice a0.fa a0.fs.length a0.fc) ∧ W.cell? ⟨w.heap.size + 1, 0, none⟩ = some (.slice a1.da a1.ds.length a1.dc) ∧ W.cell? ⟨w.heap.size + 1, 1, none⟩ = some (.slice a1.fa a1.fs.length a1.fc))
    (first | exact ⟨p0, p1, q0, q1⟩ | exact ⟨(k2 _ _ lA).trans p0, (k2 _ _ lA).trans p1, (k2 _ _ lB).trans q0, (k2 _ _ lB).trans q1⟩ | exact ⟨(k3 _ _ lA).trans p0, (k3 _ _ lA).trans p1, (k3 _ _ lB).trans q0, (k3 _ _ lB).trans q1⟩ | exact ⟨(k4 _ _ lA).trans p0, (k4 _ _ lA).trans p1, (k4 _ _ lB).trans q0, (k4 _ _ lB).trans q1⟩)
    (first
      | (go_at_call_of 25 (Value.agg #[.slice a0.da a0.ds.length a0.dc, .slice a0.fa a0.fs.length a0.fc]); refine (laws_toProgram a0 _ (by exact OA.out.grow (Gw.refl _).drew) hzA).mono ?_; rintro e w2 ⟨x, rfl, hx, nd, nf, _, g2⟩; have nx : KProg.Pfree w2 x := ⟨⟨nd.1, fun b hb => (nd.2.2 b hb).2⟩, ⟨nf.1, fun b hb => (nf.2.2 b hb).2⟩⟩; clear nd nf; have HX := Lib.hid hx; clear hx; have k2 : ∀ b o, b < wC.heap.size → w2.cell? ⟨b, o, none⟩ = wC.cell? ⟨b, o, none⟩ := fun b o h => (bcell g2).1 b o h)
      | (go_at_call_of 25 (Value.agg #[.slice a1.da a1.ds.length a1.dc, .slice a1.fa a1.fs.length a1.fc]); refine (laws_toProgram a1 _ (by exact OB.out.grow ((Gw.refl _).drew.trans g2)) hzB).mono ?_; rintro e w3 ⟨y, rfl, hy, nd, nf, _, g3⟩; have ny : KProg.Pfree w3 y := ⟨⟨nd.1, fun b hb => (nd.2.2 b hb).2⟩, ⟨nf.1, fun b hb => (nf.2.2 b hb).2⟩⟩; clear nd nf; have HY := Lib.hid hy; clear hy; have k3 : ∀ b o, b < wC.heap.size → w3.cell? ⟨b, o, none⟩ = wC.cell? ⟨b, o, none⟩ := fun b o h => ((bcell g3).1 b o (Nat.lt_of_lt_of_le h g2.size)).trans (k2 b o h))
      | (go_at_call 24; refine (spec_sProg x y _ (nx.ok.grow g3) ny.ok).mono ?_; rintro e w4 ⟨r, rfl, hr, g4⟩; have k4 : ∀ b o, b < wC.heap.size → w4.cell? ⟨b, o, none⟩ = wC.cell? ⟨b, o, none⟩ := fun b o h => ((bcell g4).1 b o (Nat.lt_of_lt_of_le h (Nat.le_trans g2.size g3.size))).trans (k3 b o h)))
  rw [HX.out, HY.out] at hr
  have HR := Lib.hid hr
  have gA : Gw wC w4 := (((Gw.refl wC).drew.trans g2).trans g3).trans g4
  replace BA := BA.grow gA
  replace BB := BB.grow gA
  replace OA := Lib.hid (OA.out.grow gA)
  replace OB := Lib.hid (OB.out.grow gA)
  replace gW := gW.trans gA
  clear p0 p1 q0 q1 k2 k3 k4 g2 g3 g4 gA hr HX HY nx ny lA lB
  obtain ⟨p0, p1⟩ := BA.two
  go_wp2_with fail
  refine (laws_toProgram a0 _ OA.out hzA).mono ?_
  rintro e w5 ⟨x', rfl, hx, nd, nf, _, g5⟩
  have nx : KProg.Pfree w5 x' := ⟨⟨nd.1, fun b hb => (nd.2.2 b hb).2⟩, ⟨nf.1, fun b hb => (nf.2.2 b hb).2⟩⟩
  clear nd nf
  have HX := Lib.hid hx
  clear p0 p1 hx
  go_upto_region 10 with (fail)
  have gA : Gw w4 (w5.alloc (.cells #[.slice x'.da x'.ds.length x'.dc, .slice x'.fa x'.fs.length x'.fc] 55)) := g5.alloc _
  replace BA := BA.grow gA
  replace BB := BB.grow gA
  replace OA := Lib.hid (OA.out.grow gA)
  replace OB := Lib.hid (OB.out.grow gA)
  replace gW := gW.trans gA
  have BX := BoxV.new w5 #[.slice x'.da x'.ds.length x'.dc, .slice x'.fa x'.fs.length x'.fc] 55
  have NX := Lib.hid (nx.keep (KType.free_gw <| (Gw.refl w5).alloc (.cells #[.slice x'.da x'.ds.length x'.dc, .slice x'.fa x'.fs.length x'.fc] 55)))
  clear gA g5 nx
  generalize w5.alloc (.cells #[.slice x'.da x'.ds.length x'.dc, .slice x'.fa x'.fs.length x'.fc] 55) = W5 at *
  obtain ⟨q0, q1⟩ := BB.two
  go_wp2_with fail
  refine (laws_toProgram a1 _ OB.out hzB).mono ?_
  rintro e w6 ⟨y', rfl, hy, nd, nf, _, g6⟩
  have ny : KProg.Pfree w6 y' := ⟨⟨nd.1, fun b hb => (nd.2.2 b hb).2⟩, ⟨nf.1, fun b hb => (nf.2.2 b hb).2⟩⟩
  clear nd nf
  have HY := Lib.hid hy
  clear q0 q1 hy
  go_upto_region 11 with (fail)
  have gA : Gw W5 (w6.alloc (.cells #[.slice y'.da y'.ds.length y'.dc, .slice y'.fa y'.fs.length y'.fc] 55)) := g6.alloc _
  replace BA := BA.grow gA
  replace BB := BB.grow gA
  replace OA := Lib.hid (OA.out.grow gA)
  replace OB := Lib.hid (OB.out.grow gA)
  replace gW := gW.trans gA
  replace BX := BX.grow gA
  replace NX := Lib.hid (NX.out.keep (KType.free_gw gA))
  have BY := BoxV.new w6 #[.slice y'.da y'.ds.length y'.dc, .slice y'.fa y'.fs.length y'.fc] 55
  have NY := Lib.hid (ny.keep (KType.free_gw <| (Gw.refl w6).alloc (.cells #[.slice y'.da y'.ds.length y'.dc, .slice y'.fa y'.fs.length y'.fc] 55)))
  clear gA g6 ny
  generalize w6.alloc (.cells #[.slice y'.da y'.ds.length y'.dc, .slice y'.fa y'.fs.length y'.fc] 55) = W6 at *
  obtain ⟨p0, p1⟩ := BX.two
  obtain ⟨q0, q1⟩ := BY.two
  go_wp2_with fail
  refine (KProg.impl_sProg x' y' _ NX.out NY.out).mono ?_
  rintro e w7 ⟨r', rfl, hr, g7⟩
  rw [HX.out, HY.out] at hr
  obtain rfl : r' = r := Bool.eq_iff_iff.2 (hr.trans HR.out.symm)
  replace BA := BA.grow g7
  replace BB := BB.grow g7
  replace OA := Lib.hid (OA.out.grow g7)
  replace OB := Lib.hid (OB.out.grow g7)
  replace gW := gW.trans g7
  replace BX := BX.grow g7
  replace BY := BY.grow g7
  replace NX := Lib.hid (NX.out.keep (KType.free_gw g7))
  replace NY := Lib.hid (NY.out.keep (KType.free_gw g7))
  clear p0 p1 q0 q1 hr HR g7
  go_upto_region 14 with (fail)
  obtain ⟨p0, p1⟩ := BA.two
  obtain ⟨q0, q1⟩ := BX.two
  have lA := BA.lt
  have lX := BX.lt
  go_region_held3 (fun W => W.cell? ⟨w.heap.size, 0, none⟩ = some (.slice a0.da a0.ds.length a0.dc) ∧ W.cell? ⟨w.heap.size, 1, none⟩ = some (.slice a0.fa a0.fs.length a0.fc) ∧ W.cell? ⟨w5.heap.size, 0, none⟩ = some (.slice x'.da x'.ds.length x'.dc) ∧ W.cell? ⟨w5.heap.size, 1, none⟩ = some (.slice x'.fa x'.fs.length x'.fc))
    (first | exact ⟨p0, p1, q0, q1⟩ | exact ⟨(k2 _ _ lA).trans p0, (k2 _ _ lA).trans p1, (k2 _ _ lX).trans q0, (k2 _ _ lX).trans q1⟩ | exact ⟨(k3 _ _ lA).trans p0, (k3 _ _ lA).trans p1, (k3 _ _ lX).trans q0, (k3 _ _ lX).trans q1⟩)
    (first
      | (go_at_call 25; refine (laws_toProgram a0 _ (by exact OA.out.grow (Gw.refl _).drew) hzA).mono ?_; rintro e w8 ⟨z, rfl, hz, nd, nf, _, g8⟩; have nz : KProg.Pfree w8 z := ⟨⟨nd.1, fun b hb => (nd.2.2 b hb).2⟩, ⟨nf.1, fun b hb => (nf.2.2 b hb).2⟩⟩; clear nd nf; have HZ := Lib.hid hz; clear hz; have k2 : ∀ b o, b < w7.heap.size → w8.cell? ⟨b, o, none⟩ = w7.cell? ⟨b, o, none⟩ := fun b o h => (bcell g8).1 b o h)
      | (go_at_call 27; refine (laws_eqProgram x' z _ (by exact NX.out.ok.grow ((Gw.refl _).drew.trans g8)) nz.ok (by rw [HX.out, HZ.out])).mono ?_; rintro e w9 ⟨rfl, g9⟩; have k3 : ∀ b o, b < w7.heap.size → w9.cell? ⟨b, o, none⟩ = w7.cell? ⟨b, o, none⟩ := fun b o h => ((bcell g9).1 b o (Nat.lt_of_lt_of_le h g8.size)).trans (k2 b o h)))
  have gA : Gw w7 w9 := ((Gw.refl w7).drew.trans g8).trans g9
  replace BB := BB.grow gA
  replace OB := Lib.hid (OB.out.grow gA)
  replace gW := gW.trans gA
  replace BY := BY.grow gA
  replace NY := Lib.hid (NY.out.keep (KType.free_gw gA))
  clear p0 p1 q0 q1 k2 k3 g8 g9 gA lA lX BA BX NX OA HZ nz
  go_upto_region 16 with (fail)
  obtain ⟨p0, p1⟩ := BB.two
  obtain ⟨q0, q1⟩ := BY.two
  have lA := BB.lt
  have lX := BY.lt
  go_region_held3 (fun W => W.cell? ⟨w.heap.size + 1, 0, none⟩ = some (.slice a1.da a1.ds.length a1.dc) ∧ W.cell? ⟨w.heap.size + 1, 1, none⟩ = some (.slice a1.fa a1.fs.length a1.fc) ∧ W.cell? ⟨w6.heap.size, 0, none⟩ = some (.slice y'.da y'.ds.length y'.dc) ∧ W.cell? ⟨w6.heap.size, 1, none⟩ = some (.slice y'.fa y'.fs.length y'.fc))
    (first | exact ⟨p0, p1, q0, q1⟩ | exact ⟨(k2 _ _ lA).trans p0, (k2 _ _ lA).trans p1, (k2 _ _ lX).trans q0, (k2 _ _ lX).trans q1⟩ | exact ⟨(k3 _ _ lA).trans p0, (k3 _ _ lA).trans p1, (k3 _ _ lX).trans q0, (k3 _ _ lX).trans q1⟩)
    (first
      | (go_at_call 25; refine (laws_toProgram a1 _ (by exact OB.out.grow (Gw.refl _).drew) hzB).mono ?_; rintro e w10 ⟨z, rfl, hz, nd, nf, _, g8⟩; have nz : KProg.Pfree w10 z := ⟨⟨nd.1, fun b hb => (nd.2.2 b hb).2⟩, ⟨nf.1, fun b hb => (nf.2.2 b hb).2⟩⟩; clear nd nf; have HZ := Lib.hid hz; clear hz; have k2 : ∀ b o, b < w9.heap.size → w10.cell? ⟨b, o, none⟩ = w9.cell? ⟨b, o, none⟩ := fun b o h => (bcell g8).1 b o h)
      | (go_at_call 27; refine (laws_eqProgram y' z _ (by exact NY.out.ok.grow ((Gw.refl _).drew.trans g8)) nz.ok (by rw [HY.out, HZ.out])).mono ?_; rintro e w11 ⟨rfl, g9⟩; have k3 : ∀ b o, b < w9.heap.size → w11.cell? ⟨b, o, none⟩ = w9.cell? ⟨b, o, none⟩ := fun b o h => ((bcell g9).1 b o (Nat.lt_of_lt_of_le h g8.size)).trans (k2 b o h)))
  go_wp2_with fail
  go_ret
  exact ⟨rfl, (gW.drew.trans g8).trans g9⟩

set_option maxRecDepth 100000 in
theorem lifted (os : Os) (started : os.Started) (H : Type) (enc : TypeId × Value → H) :
    ReturnsInHanded {} Try.checked os 6 .any (Rows.fnExactSameProgramSpec.pre6 enc Try.prog Try.f6 Rows.fnExactSameProgramRow.domain false) (Rows.fnExactSameProgramSpec.post enc Try.prog Try.f6 false true false false) := by
  refine returnsInHanded_of_change (C := Try.checked) own started (by kernel_rfl) Try.func6
    (ChangeSpec.witness6 (enc := enc) (C := Try.checked) false ⟨#[], #[.agg #[.slice none 0 0, .slice none 0 0], .agg #[.slice none 0 0, .slice none 0 0]], []⟩ 8 (by kernel_rfl) (by kernel_rfl) (by kernel_rfl) (by kernel_rfl)) ?_
  intro W base args ds gs before hval0 hW _ _
  have hval : ∀ (j : Nat) t v, Try.f6.params[j]? = some t → args[j]? = some v → Value.okWide Try.prog W .any base t v := hval0
  have hW' := hW
  obtain ⟨p, q, hA0, hV0, rfl, hfz, hnd⟩ := hW
  have hA : DataW.TrodAll enc Try.prog W 0 (fun _ => true) true Try.f6.params.toList args.toList ds p := hA0
  rw [Try.params6] at hA hval
  obtain ⟨v0, vs0, d0, ds0, p0, q0, hargs, rfl, rfl, h0, r0⟩ := trodAll_cons hA
  obtain ⟨v1, vs1, d1, ds1, p1, q1, rfl, rfl, rfl, h1, r1⟩ := trodAll_cons r0
  obtain ⟨rfl, rfl, rfl⟩ := trodAll_nil r1
  obtain rfl : args = #[v0, v1] := by cases args; simp_all
  obtain ⟨a0, rfl, w0⟩ := open_prog (hval 0 49 v0 rfl rfl) h0
  obtain ⟨a1, rfl, w1⟩ := open_prog (hval 1 49 v1 rfl rfl) h1
  obtain ⟨rfl, rfl⟩ := trodVars_none hV0
  refine (walk W a0 w0 a1 w1).mono fun e W' ⟨he, hg⟩ => ?_
  subst he
  exact ⟨_, rfl, post_law laidOut (by kernel_rfl) (by kernel_rfl) rfl Try.underlying4 hW' hg rfl⟩

theorem proved : Rows.FnExactSameProgramSaid :=
  OpenClaim.holds_of_wide 6 Try.f6 rfl rfl rfl rfl rfl rfl rfl ⟨rfl, rfl, rfl, rfl, rfl⟩ rfl rfl rfl rfl rfl (by kernel_rfl) Try.func6 (by kernel_rfl)
    (of_decide_eq_true (by kernel_rfl)) (by unfold Func.isWrapper; first | (rw [if_pos (by decide +kernel)]; kernel_rfl) | (rw [if_neg (by decide +kernel)]; exact ⟨rfl, rfl⟩))
    (fun os started H enc _ => lifted os started H enc)
#print axioms proved
end Go.Proofs.Ytbbldkhlclfmkaa.fnExactSameProgram
