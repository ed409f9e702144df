/-
  Proved: for every book and every core term the law FnExactIsNormal returns true and leaves its arguments and the program's table coreForms as they were. Condition: coreForms reads as the program's text lays it, which the card ties to the text.
-/
import Derived.Test.YtfbgkbgoooepmaaDoorIn
import Derived.Test.YtfbgkbgoooepmaaDoorBk
import Derived.Test.YtfbgkbgoooepmaaDoorCoLw
import Derived.Deep.RegionHeld3
import Derived.Deep.Cut
import Derived.Test.YtfbgkbgoooepmaaDoorCards
import Derived.Test.YtfbgkbgoooepmaaDoorTie
import Derived.LaidMore
import Derived.Lay
import Derived.SevenTiedAt
import Derived.Stop.Joined
namespace Go.Proofs.YtfbgkbgoooepmaaDoor.fnExactIsNormal
open Go.ChangeShapes Go.WideShapes Go.ChangeAt Go.RowKit Con
set_option linter.unusedVariables false
theorem own : ownKnob Tryd.prog.godebug = none := by kernel_rfl
theorem laidOut : laidOutB Tryd.prog = true := by kernel_rfl

set_option maxRecDepth 100000 in
set_option maxHeartbeats 4000000 in
theorem walk (w : World) (a0 : LB) (w0 : bOk w a0) (a1 : LK) (w1 : a1.Ok w) (hT : laidMetH Tryd.prog Rows.fnExactIsNormalRow.laid w) :
    Calls Tryd.prog 14 #[a0.val, a1.val] w fun e w' => e = .returned (.bool true) ∧ Gw w w' := by
  have hTb : KTbl w := ktbl_of (by have h2 : laidMetH Tryd.prog Rows.fnExactIsNormalRow.laid w := hT; rw [MakeChecks.laidMetH_plain _ _ _ (by kernel_rfl)] at h2; exact h2)
  have TB := Lib.hid hTb
  clear hTb hT
  have gW : Gw w ((w.alloc (.cells #[.slice a0.a a0.ks.length a0.cap] 38)).alloc (a1.obj 25)) := ((Gw.refl w).alloc _).alloc _
  have BA := (BoxB.new w a0 38).grow ((Gw.refl _).alloc (a1.obj 25))
  have BB := BoxK.new (w.alloc (.cells #[.slice a0.a a0.ks.length a0.cap] 38)) a1 25
  rw [World.size_alloc] at BB
  have OA := Lib.hid (w0.grow gW)
  have OB := Lib.hid (w1.grow gW)
  go_enter Tryd.func14, Tryd.ntmps14
  go_upto_region 2 with (fail)
  generalize ((w.alloc (.cells #[.slice a0.a a0.ks.length a0.cap] 38)).alloc (.cells #[.int .i64 a1.k, .int .i64 a1.v, .slice a1.da a1.ds.length a1.dc, .slice a1.a a1.ks.length a1.cap] 25)) = wA at *
  have p0 := BA.c
  go_wp2_with fail
  refine (laws_szBook a0 _ _ OA.out (by omega) (by omega)).mono ?_
  rintro e wB ⟨he, gB⟩
  subst he
  replace BA := BA.grow gB
  replace BB := BB.grow gB
  replace OA := Lib.hid (OA.out.grow gB)
  replace OB := Lib.hid (OB.out.grow gB)
  replace gW := gW.trans gB
  clear p0 gB
  by_cases hsA : 1048576 < a0.sz
  · have HS : szR 1048576 a0.sz = -1 := if_neg (by omega)
    rw [HS]
    go_wp2_with fail
    go_ret
    exact ⟨rfl, gW⟩
  have HS : szR 1048576 a0.sz = 1048576 - a0.sz := if_pos (by omega)
  rw [HS]
  have hp : ¬ ((1048576 : Int) - a0.sz < 0) := by omega
  clear HS
  obtain ⟨q0, q1, q2, q3⟩ := BB.c
  go_wp2_with fail
  refine (laws_szCore a1 _ _ OB.out (by omega) (by omega)).mono ?_
  rintro e wC ⟨he, gB⟩
  subst he
  replace BA := BA.grow gB
  replace BB := BB.grow gB
  replace OA := Lib.hid (OA.out.grow gB)
  replace OB := Lib.hid (OB.out.grow gB)
  replace gW := gW.trans gB
  clear q0 q1 q2 q3 gB hp
  by_cases hsB : (1048576 : Int) - a0.sz < a1.sz
  · have HS : szR (1048576 - a0.sz) a1.sz = -1 := if_neg (by omega)
    rw [HS]
    go_wp2_with fail
    go_ret
    exact ⟨rfl, gW⟩
  have HS : szR (1048576 - a0.sz) a1.sz = 1048576 - a0.sz - a1.sz := if_pos (by omega)
  rw [HS]
  have hp : ¬ ((1048576 : Int) - a0.sz - a1.sz < 0) := by omega
  clear HS
  have hzA : a0.sz ≤ 1048576 := by omega
  have hzB : a1.sz ≤ 1048576 := by omega
  go_upto_region 8 with (fail)
  clear hp hsA hsB
  have p0 := BA.c
  obtain ⟨q0, q1, q2, q3⟩ := BB.c
  have lA := BA.lt
  have lB := BB.lt
  go_region_held3 (fun W => W.cell? ⟨w.heap.size, 0, none⟩ = some (.slice a0.a a0.ks.length a0.cap) ∧ W.cell? ⟨w.heap.size + 1, 0, none⟩ = some (.int .i64 a1.k) ∧ W.cell? ⟨w.heap.size + 1, 1, none⟩ = some (.int .i64 a1.v) ∧ W.cell? ⟨w.heap.size + 1, 2, none⟩ = some (.slice a1.da a1.ds.length a1.dc) ∧ W.cell? ⟨w.heap.size + 1, 3, none⟩ = some (.slice a1.a a1.ks.length a1.cap))
    (first | exact ⟨p0, q0, q1, q2, q3⟩ | exact ⟨(k2 _ _ lA).trans p0, (k2 _ _ lB).trans q0, (k2 _ _ lB).trans q1, (k2 _ _ lB).trans q2, (k2 _ _ lB).trans q3⟩ | exact ⟨(k3 _ _ lA).trans p0, (k3 _ _ lB).trans q0, (k3 _ _ lB).trans q1, (k3 _ _ lB).trans q2, (k3 _ _ lB).trans q3⟩ | exact ⟨(k4 _ _ lA).trans p0, (k4 _ _ lB).trans q0, (k4 _ _ lB).trans q1, (k4 _ _ lB).trans q2, (k4 _ _ lB).trans q3⟩)
    (first
      | (go_at_call 30; refine (laws_toBook a0 _ (by exact OA.out.grow (Gw.refl _).drew) hzA).mono ?_; rintro e w2 ⟨x, rfl, hx, nx, g2⟩; have HX := Lib.hid hx; clear hx; have k2 : ∀ b o, b < wC.heap.size → w2.cell? ⟨b, o, none⟩ = wC.cell? ⟨b, o, none⟩ := fun b o h => (bcell g2).1 b o h)
      | (go_at_call 17; refine (laws_toCore a1 _ (by exact OB.out.drew.grow g2) hzB).mono ?_; rintro e w3 ⟨y, rfl, hy, ny, g3⟩; have HY := Lib.hid hy; clear hy; have k3 : ∀ b o, b < wC.heap.size → w3.cell? ⟨b, o, none⟩ = wC.cell? ⟨b, o, none⟩ := fun b o h => ((bcell g3).1 b o (Nat.lt_of_lt_of_le h g2.size)).trans (k2 b o h))
      | (go_at_call 47; refine (spec_nm x y _ ((show bOk _ x from nx.1).grow g3) ny.1).mono ?_; rw [HX.out, HY.out]; rintro e w4 ⟨rfl, g4⟩; have k4 : ∀ b o, b < wC.heap.size → w4.cell? ⟨b, o, none⟩ = wC.cell? ⟨b, o, none⟩ := fun b o h => ((bcell g4).1 b o (Nat.lt_of_lt_of_le h (Nat.le_trans g2.size g3.size))).trans (k3 b o h)))
  have gA : Gw wC w4 := (((Gw.refl wC).drew.trans g2).trans g3).trans g4
  replace BA := BA.grow gA
  replace BB := BB.grow gA
  replace OA := Lib.hid (OA.out.grow gA)
  replace OB := Lib.hid (OB.out.grow gA)
  replace gW := gW.trans gA
  clear p0 q0 q1 q2 q3 k2 k3 k4 g2 g3 g4 gA HX HY nx ny lA lB
  have p0 := BA.c
  go_wp2_with fail
  refine (laws_toBook a0 _ OA.out hzA).mono ?_
  rintro e w5 ⟨x', rfl, hx, nx, g5⟩
  have HX := Lib.hid hx
  clear p0 hx
  go_upto_region 10 with (fail)
  have gA : Gw w4 (w5.alloc (.cells #[.slice x'.a x'.ks.length x'.cap] 42)) := g5.alloc _
  replace BA := BA.grow gA
  replace BB := BB.grow gA
  replace OA := Lib.hid (OA.out.grow gA)
  replace OB := Lib.hid (OB.out.grow gA)
  replace gW := gW.trans gA
  have BX := BoxB.new w5 x' 42
  have NX := Lib.hid (gNewSl.grow coLen coGr nx ((Gw.refl w5).alloc (.cells #[.slice x'.a x'.ks.length x'.cap] 42)))
  clear gA g5 nx
  generalize w5.alloc (.cells #[.slice x'.a x'.ks.length x'.cap] 42) = W5 at *
  obtain ⟨q0, q1, q2, q3⟩ := BB.c
  go_wp2_with fail
  refine (laws_toCore a1 _ OB.out hzB).mono ?_
  rintro e w6 ⟨y', rfl, hy, ny, g6⟩
  have HY := Lib.hid hy
  clear q0 q1 q2 q3 hy
  go_upto_region 11 with (fail)
  have gA : Gw W5 (w6.alloc (y'.obj 30)) := g6.alloc _
  replace BA := BA.grow gA
  replace BB := BB.grow gA
  replace OA := Lib.hid (OA.out.grow gA)
  replace OB := Lib.hid (OB.out.grow gA)
  replace gW := gW.trans gA
  replace BX := BX.grow gA
  replace NX := Lib.hid (gNewSl.grow coLen coGr NX.out gA)
  have BY := BoxK.new w6 y' 30
  have NY := Lib.hid (ny.grow coGr ((Gw.refl w6).alloc (y'.obj 30)))
  clear gA g6 ny
  generalize w6.alloc (.cells #[.int .i64 y'.k, .int .i64 y'.v, .slice y'.da y'.ds.length y'.dc, .slice y'.a y'.ks.length y'.cap] 30) = W6 at *
  have p0 := BX.c
  obtain ⟨q0, q1, q2, q3⟩ := BY.c
  go_wp2_with fail
  refine (impl_nm x' y' _ NX.out.1 NY.out.1 (TB.out.grow gW)).mono ?_
  rw [HX.out, HY.out]
  rintro e w7 ⟨rfl, g7⟩
  replace BA := BA.grow g7
  replace BB := BB.grow g7
  replace OA := Lib.hid (OA.out.grow g7)
  replace OB := Lib.hid (OB.out.grow g7)
  replace gW := gW.trans g7
  replace BX := BX.grow g7
  replace BY := BY.grow g7
  replace NX := Lib.hid (gNewSl.grow coLen coGr NX.out g7)
  replace NY := Lib.hid (NY.out.grow coGr g7)
  clear p0 q0 q1 q2 q3 g7
  have hneq : ((msC a0.cs a1.co && a1.co.nm) != (msC a0.cs a1.co && a1.co.nm)) = false := by simp
  go_upto_region 14 with (fail)
  clear hneq
  have p0 := BA.c
  have q0 := BX.c
  have lA := BA.lt
  have lX := BX.lt
  go_region_held3 (fun W => W.cell? ⟨w.heap.size, 0, none⟩ = some (.slice a0.a a0.ks.length a0.cap) ∧ W.cell? ⟨w5.heap.size, 0, none⟩ = some (.slice x'.a x'.ks.length x'.cap))
    (first | exact ⟨p0, q0⟩ | exact ⟨(k2 _ _ lA).trans p0, (k2 _ _ lX).trans q0⟩ | exact ⟨(k3 _ _ lA).trans p0, (k3 _ _ lX).trans q0⟩)
    (first
      | (go_at_call 30; refine (laws_toBook a0 _ (by exact OA.out.grow (Gw.refl _).drew) hzA).mono ?_; rintro e w8 ⟨z, rfl, hz, nz, g8⟩; have HZ := Lib.hid hz; clear hz; have k2 : ∀ b o, b < w7.heap.size → w8.cell? ⟨b, o, none⟩ = w7.cell? ⟨b, o, none⟩ := fun b o h => (bcell g8).1 b o h)
      | (go_at_call 32; refine (laws_eqBook x' z _ (by exact ((show bOk _ x' from NX.out.1).grow (Gw.refl _).drew).grow g8) nz.1 (by rw [HX.out, HZ.out])).mono ?_; rintro e w9 ⟨rfl, g9⟩; have k3 : ∀ b o, b < w7.heap.size → w9.cell? ⟨b, o, none⟩ = w7.cell? ⟨b, o, none⟩ := fun b o h => ((bcell g9).1 b o (Nat.lt_of_lt_of_le h g8.size)).trans (k2 b o h)))
  have gA : Gw w7 w9 := ((Gw.refl w7).drew.trans g8).trans g9
  replace BB := BB.grow gA
  replace OB := Lib.hid (OB.out.grow gA)
  replace gW := gW.trans gA
  replace BY := BY.grow gA
  replace NY := Lib.hid (NY.out.grow coGr gA)
  clear p0 q0 k2 k3 g8 g9 gA lA lX BA BX NX OA HZ nz
  go_upto_region 16 with (fail)
  obtain ⟨p0, p1, p2, p3⟩ := BB.c
  obtain ⟨q0, q1, q2, q3⟩ := BY.c
  have lA := BB.lt
  have lX := BY.lt
  go_region_held3 (fun W => W.cell? ⟨w.heap.size + 1, 0, none⟩ = some (.int .i64 a1.k) ∧ W.cell? ⟨w.heap.size + 1, 1, none⟩ = some (.int .i64 a1.v) ∧ W.cell? ⟨w.heap.size + 1, 2, none⟩ = some (.slice a1.da a1.ds.length a1.dc) ∧ W.cell? ⟨w.heap.size + 1, 3, none⟩ = some (.slice a1.a a1.ks.length a1.cap) ∧ W.cell? ⟨w6.heap.size, 0, none⟩ = some (.int .i64 y'.k) ∧ W.cell? ⟨w6.heap.size, 1, none⟩ = some (.int .i64 y'.v) ∧ W.cell? ⟨w6.heap.size, 2, none⟩ = some (.slice y'.da y'.ds.length y'.dc) ∧ W.cell? ⟨w6.heap.size, 3, none⟩ = some (.slice y'.a y'.ks.length y'.cap))
    (first | exact ⟨p0, p1, p2, p3, q0, q1, q2, q3⟩ | exact ⟨(k2 _ _ lA).trans p0, (k2 _ _ lA).trans p1, (k2 _ _ lA).trans p2, (k2 _ _ lA).trans p3, (k2 _ _ lX).trans q0, (k2 _ _ lX).trans q1, (k2 _ _ lX).trans q2, (k2 _ _ lX).trans q3⟩ | exact ⟨(k3 _ _ lA).trans p0, (k3 _ _ lA).trans p1, (k3 _ _ lA).trans p2, (k3 _ _ lA).trans p3, (k3 _ _ lX).trans q0, (k3 _ _ lX).trans q1, (k3 _ _ lX).trans q2, (k3 _ _ lX).trans q3⟩)
    (first
      | (go_at_call 17; refine (laws_toCore a1 _ (by exact OB.out.drew) hzB).mono ?_; rintro e w10 ⟨z, rfl, hz, nz, g8⟩; have HZ := Lib.hid hz; clear hz; have k2 : ∀ b o, b < w9.heap.size → w10.cell? ⟨b, o, none⟩ = w9.cell? ⟨b, o, none⟩ := fun b o h => (bcell g8).1 b o h)
      | (go_at_call 19; refine (laws_eqCore y' z _ (by exact NY.out.1.drew.grow g8) nz.1 (by rw [HY.out, HZ.out])).mono ?_; rintro e w11 ⟨rfl, g9⟩; have k3 : ∀ b o, b < w9.heap.size → w11.cell? ⟨b, o, none⟩ = w9.cell? ⟨b, o, none⟩ := fun b o h => ((bcell g9).1 b o (Nat.lt_of_lt_of_le h g8.size)).trans (k2 b o h)))
  go_wp2_with fail
  go_ret
  exact ⟨rfl, (gW.drew.trans g8).trans g9⟩

set_option maxRecDepth 100000 in
theorem lifted (os : Os) (started : os.Started) (H : Type) (enc : TypeId × Value → H) :
    ReturnsInHanded {} Tryd.checked os 14 .any (fun w args => (Rows.fnExactIsNormalSpec.pre enc Tryd.prog Tryd.f14 Rows.fnExactIsNormalRow.domain false w args ∧ laidMetH Tryd.prog Rows.fnExactIsNormalRow.laid w) ∧ sizedMet enc Tryd.prog Tryd.f14 (OpenSpec.ofChange Rows.fnExactIsNormalSpec) false w args)
      (Rows.fnExactIsNormalSpec.post enc Tryd.prog Tryd.f14 false true false false) := by
  refine returnsInHanded_of_change_and (C := Tryd.checked) (X := fun w _ => laidMetH Tryd.prog Rows.fnExactIsNormalRow.laid w) (fun _ _ _ hh h => h.of_heap hh) own started (by kernel_rfl) Tryd.func14
    (ChangeSpec.witness_shaped (enc := enc) (C := Tryd.checked) (os := os) (X := fun w _ => laidMetH Tryd.prog Rows.fnExactIsNormalRow.laid w) false (World.laidAll Tryd.prog os Rows.fnExactIsNormalRow.laid) #[.agg #[.slice none 0 0], .agg #[.int .i64 0, .int .i64 0, .slice none 0 0, .slice none 0 0]] 8 (World.laidAll_os _ _ _)
      (World.shaped_of_ZipB (by kernel_rfl) (by kernel_rfl)) (by kernel_rfl) (by kernel_rfl) (by kernel_rfl)
      (by rw [MakeChecks.laidMetH_plain _ _ _ (by kernel_rfl)]; exact laidMet_laidAll _ (by kernel_rfl) (by kernel_rfl))) ?_
  intro W base args ds gs before hval0 hW _ _ hT _
  have hval : ∀ (j : Nat) t v, Tryd.f14.params[j]? = some t → args[j]? = some v → Value.okWide Tryd.prog W .any base t v := hval0
  have hW' := hW
  obtain ⟨p, q, hA0, hV0, rfl, hfz, hnd⟩ := hW
  have hA : DataW.TrodAll enc Tryd.prog W 0 (fun _ => true) true Tryd.f14.params.toList args.toList ds p := hA0
  rw [Tryd.params14] at hA hval
  obtain ⟨v0, vs0, d0, ds0, p0, q0, hargs, rfl, rfl, h0, r0⟩ := trodAll_cons hA
  obtain ⟨v1, vs1, d1, ds1, p1, q1, rfl, rfl, rfl, h1, r1⟩ := trodAll_cons r0
  obtain ⟨rfl, rfl, rfl⟩ := trodAll_nil r1
  obtain rfl : args = #[v0, v1] := by cases args; simp_all
  obtain ⟨a0, rfl, w0⟩ := open_book (hval 0 38 v0 rfl rfl) h0
  obtain ⟨a1, rfl, w1⟩ := open_core (hval 1 25 v1 rfl rfl) h1
  obtain ⟨g0, rfl⟩ : ∃ g0, gs = [g0] := by
    obtain ⟨g, t, cs, fuel, d, p', rfl, _⟩ := trodVars_one hV0
    exact ⟨d, rfl⟩
  refine (walk W a0 w0 a1 w1 hT).mono fun e W' ⟨he, hg⟩ => ?_
  subst he
  exact ⟨_, rfl, post_law laidOut (by kernel_rfl) (by kernel_rfl) rfl Tryd.underlying4 hW' hg rfl⟩

theorem holds : Rows.FnExactIsNormalSaid :=
  OpenClaim.holds_of_wide 14 Tryd.f14 rfl rfl rfl rfl rfl rfl rfl ⟨rfl, rfl, rfl, rfl, rfl⟩ rfl rfl rfl rfl rfl (by kernel_rfl) Tryd.func14 (by kernel_rfl)
    (of_decide_eq_true (by kernel_rfl)) (by unfold Func.isWrapper; first | (rw [if_pos (by decide +kernel)]; kernel_rfl) | (rw [if_neg (by decide +kernel)]; exact ⟨rfl, rfl⟩))
    (fun os started H enc _ => lifted os started H enc)

/-- The given statement: the tied card. -/
theorem proved : Rows.FnExactIsNormalCardSaid :=
  Claim7.holds_tied_plain_at .later [] [.data] true Rows.fnExactIsNormalCard.stood.harness Rows.fnExactIsNormalCard.stood.looks holds (fun _ h => by cases h) (by kernel_rfl) (fun _ h => by cases h) fnExactIsNormal_row_tie rfl ⟨rfl, rfl⟩ (by kernel_rfl) rfl
    (fun f fn hf hfn => by
      obtain rfl : f = 14 := Option.some.inj ((show Tryd.prog.funcNamed Rows.fnExactIsNormalRow.func = some 14 by kernel_rfl).symm.trans hf) |>.symm
      obtain rfl : fn = Tryd.f14 := (Option.some.inj (Tryd.func14.symm.trans hfn)).symm
      exact ⟨by kernel_rfl, fun j t ht => by
        rw [Tryd.params14] at ht
        have hm : t ∈ [38, 25] := by simpa using Array.mem_of_getElem? ht
        have hall : ([38, 25].all fun u => !Tryd.prog.wantsStandIn u) = true := by kernel_rfl
        exact (show Tryd.prog.wantsStandIn t = false by simpa using List.all_eq_true.1 hall t hm)⟩)
    (by kernel_rfl)
#print axioms proved
end Go.Proofs.YtfbgkbgoooepmaaDoor.fnExactIsNormal
