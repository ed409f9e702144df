/-
  Proved: for all terms a and b the law FnExactSameTerm returns true and leaves its arguments as they were. No condition.
-/
import Derived.Test.YtbbldkhlclfmkaaKnTerm
import Derived.Test.YtbbldkhlclfmkaaTmSz
import Derived.Test.YtbbldkhlclfmkaaTmTo
import Derived.Test.YtbbldkhlclfmkaaTmEq
import Derived.Test.YtbbldkhlclfmkaaTm
import Derived.Deep.RegionHeld3
import Derived.Deep.Cut
namespace Go.Proofs.Ytbbldkhlclfmkaa.fnExactSameTerm
open Go.ChangeShapes Go.WideShapes Go.ChangeAt Go.RowKit Con
set_option linter.unusedVariables false
theorem own : ownKnob Try.prog.godebug = none := by kernel_rfl
theorem laidOut : laidOutB Try.prog = true := by kernel_rfl

set_option maxHeartbeats 4000000 in
theorem walk (w : World) (a0 : LM) (w0 : a0.Ok w) (a1 : LM) (w1 : a1.Ok w) :
    Calls Try.prog 5 #[a0.val, a1.val] w fun e w' => e = .returned (.bool true) ∧ Gw w w' := by
  have gW : Gw w ((w.alloc (.cells #[.int .i64 a0.k, .int .i64 a0.m, .string a0.n, .int .i64 a0.t.k, .string a0.t.n, .slice a0.t.a a0.t.ks.length a0.t.cap, .slice a0.na a0.ns.length a0.nc, .slice a0.a a0.ks.length a0.cap] 38)).alloc (.cells #[.int .i64 a1.k, .int .i64 a1.m, .string a1.n, .int .i64 a1.t.k, .string a1.t.n, .slice a1.t.a a1.t.ks.length a1.t.cap, .slice a1.na a1.ns.length a1.nc, .slice a1.a a1.ks.length a1.cap] 38)) := ((Gw.refl w).alloc _).alloc _
  have BA := (BoxM.new w a0 38).grow ((Gw.refl _).alloc (.cells #[.int .i64 a1.k, .int .i64 a1.m, .string a1.n, .int .i64 a1.t.k, .string a1.t.n, .slice a1.t.a a1.t.ks.length a1.t.cap, .slice a1.na a1.ns.length a1.nc, .slice a1.a a1.ks.length a1.cap] 38))
  have BB := BoxM.new (w.alloc (.cells #[.int .i64 a0.k, .int .i64 a0.m, .string a0.n, .int .i64 a0.t.k, .string a0.t.n, .slice a0.t.a a0.t.ks.length a0.t.cap, .slice a0.na a0.ns.length a0.nc, .slice a0.a a0.ks.length a0.cap] 38)) a1 38
  rw [World.size_alloc] at BB
  have OA := Lib.hid (w0.grow gW)
  have OB := Lib.hid (w1.grow gW)
  go_enter Try.func5, Try.ntmps5
  go_upto_region 2 with (fail)
  generalize ((w.alloc (.cells #[.int .i64 a0.k, .int .i64 a0.m, .string a0.n, .int .i64 a0.t.k, .string a0.t.n, .slice a0.t.a a0.t.ks.length a0.t.cap, .slice a0.na a0.ns.length a0.nc, .slice a0.a a0.ks.length a0.cap] 38)).alloc (.cells #[.int .i64 a1.k, .int .i64 a1.m, .string a1.n, .int .i64 a1.t.k, .string a1.t.n, .slice a1.t.a a1.t.ks.length a1.t.cap, .slice a1.na a1.ns.length a1.nc, .slice a1.a a1.ks.length a1.cap] 38)) = wA at *
  obtain ⟨p0, p1, p2, p3, p4, p5, p6, p7⟩ := BA.c
  go_wp2_with fail
  refine (laws_szTerm a0 _ _ OA.out (by omega) (by omega)).mono ?_
  rintro e wB ⟨he, gB⟩
  subst he
  replace BA := BA.grow gB
  replace BB := BB.grow gB
  replace OA := Lib.hid (OA.out.grow gB)
  replace OB := Lib.hid (OB.out.grow gB)
  replace gW := gW.trans gB
  clear p0 p1 p2 p3 p4 p5 p6 p7 gB
  by_cases hsA : 1048576 < a0.sz
  · have HS : szR 1048576 a0.sz = -1 := if_neg (by omega)
    rw [HS]
    go_wp2_with fail
    go_ret
    exact ⟨rfl, gW⟩
  have HS : szR 1048576 a0.sz = 1048576 - a0.sz := if_pos (by omega)
  rw [HS]
  have hp : ¬ ((1048576 : Int) - a0.sz < 0) := by omega
  clear HS
  obtain ⟨q0, q1, q2, q3, q4, q5, q6, q7⟩ := BB.c
  go_wp2_with fail
  refine (laws_szTerm a1 _ _ OB.out (by omega) (by omega)).mono ?_
  rintro e wC ⟨he, gB⟩
  subst he
  replace BA := BA.grow gB
  replace BB := BB.grow gB
  replace OA := Lib.hid (OA.out.grow gB)
  replace OB := Lib.hid (OB.out.grow gB)
  replace gW := gW.trans gB
  clear q0 q1 q2 q3 q4 q5 q6 q7 gB hp
  by_cases hsB : (1048576 : Int) - a0.sz < a1.sz
  · have HS : szR (1048576 - a0.sz) a1.sz = -1 := if_neg (by omega)
    rw [HS]
    go_wp2_with fail
    go_ret
    exact ⟨rfl, gW⟩
  have HS : szR (1048576 - a0.sz) a1.sz = 1048576 - a0.sz - a1.sz := if_pos (by omega)
  rw [HS]
  have hp : ¬ ((1048576 : Int) - a0.sz - a1.sz < 0) := by omega
  clear HS
  have hzA : a0.sz ≤ 1048576 := by omega
  have hzB : a1.sz ≤ 1048576 := by omega
  go_upto_region 8 with (fail)
  clear hp hsA hsB
  obtain ⟨p0, p1, p2, p3, p4, p5, p6, p7⟩ := BA.c
  obtain ⟨q0, q1, q2, q3, q4, q5, q6, q7⟩ := BB.c
  have lA := BA.lt
  have lB := BB.lt
  go_region_held3 (fun W => W.cell? ⟨w.heap.size, 0, none⟩ = some (.int .i64 a0.k) ∧ W.cell? ⟨w.heap.size, 1, none⟩ = some (.int .i64 a0.m) ∧ W.cell? ⟨w.heap.size, 2, none⟩ = some (.string a0.n) ∧ W.cell? ⟨w.heap.size, 3, none⟩ = some (.int .i64 a0.t.k) ∧ W.cell? ⟨w.heap.size, 4, none⟩ = some (.string a0.t.n) ∧ W.cell? ⟨w.heap.size, 5, none⟩ = some (.slice a0.t.a a0.t.ks.length a0.t.cap) ∧ W.cell? ⟨w.heap.size, 6, none⟩ = some (.slice a0.na a0.ns.length a0.nc) ∧ W.cell? ⟨w.heap.size, 7, none⟩ = some (.slice a0.a a0.ks.length a0.cap) ∧ W.cell? ⟨w.heap.size + 1, 0, none⟩ = some (.int .i64 a1.k) ∧ W.cell? ⟨w.heap.size + 1, 1, none⟩ = some (.int .i64 a1.m) ∧ W.cell? ⟨w.heap.size + 1, 2, none⟩ = some (.string a1.n) ∧ W.cell? ⟨w.heap.size + 1, 3, none⟩ = some (.int .i64 a1.t.k) ∧ W.cell? ⟨w.heap.size + 1, 4, none⟩ = some (.string a1.t.n) ∧ W.cell? ⟨w.heap.size + 1, 5, none⟩ = some (.slice a1.t.a a1.t.ks.length a1.t.cap) ∧ W.cell? ⟨w.heap.size + 1, 6, none⟩ = some (.slice a1.na a1.ns.length a1.nc) ∧ W.cell? ⟨w.heap.size + 1, 7, none⟩ = some (.slice a1.a a1.ks.length a1.cap))
    (first | exact ⟨p0, p1, p2, p3, p4, p5, p6, p7, q0, q1, q2, q3, q4, q5, q6, q7⟩ | exact ⟨(k2 _ _ lA).trans p0, (k2 _ _ lA).trans p1, (k2 _ _ lA).trans p2, (k2 _ _ lA).trans p3, (k2 _ _ lA).trans p4, (k2 _ _ lA).trans p5, (k2 _ _ lA).trans p6, (k2 _ _ lA).trans p7, (k2 _ _ lB).trans q0, (k2 _ _ lB).trans q1, (k2 _ _ lB).trans q2, (k2 _ _ lB).trans q3, (k2 _ _ lB).trans q4, (k2 _ _ lB).trans q5, (k2 _ _ lB).trans q6, (k2 _ _ lB).trans q7⟩ | exact ⟨(k3 _ _ lA).trans p0, (k3 _ _ lA).trans p1, (k3 _ _ lA).trans p2, (k3 _ _ lA).trans p3, (k3 _ _ lA).trans p4, (k3 _ _ lA).trans p5, (k3 _ _ lA).trans p6, (k3 _ _ lA).trans p7, (k3 _ _ lB).trans q0, (k3 _ _ lB).trans q1, (k3 _ _ lB).trans q2, (k3 _ _ lB).trans q3, (k3 _ _ lB).trans q4, (k3 _ _ lB).trans q5, (k3 _ _ lB).trans q6, (k3 _ _ lB).trans q7⟩ | exact ⟨(k4 _ _ lA).trans p0, (k4 _ _ lA).trans p1, (k4 _ _ lA).trans p2, (k4 _ _ lA).trans p3, (k4 _ _ lA).trans p4, (k4 _ _ lA).trans p5, (k4 _ _ lA).trans p6, (k4 _ _ lA).trans p7, (k4 _ _ lB).trans q0, (k4 _ _ lB).trans q1, (k4 _ _ lB).trans q2, (k4 _ _ lB).trans q3, (k4 _ _ lB).trans q4, (k4 _ _ lB).trans q5, (k4 _ _ lB).trans q6, (k4 _ _ lB).trans q7⟩)
    (first
      | (go_at_call_of 20 (Value.agg #[.int .i64 a0.k, .int .i64 a0.m, .string a0.n, .int .i64 a0.t.k, .string a0.t.n, .slice a0.t.a a0.t.ks.length a0.t.cap, .slice a0.na a0.ns.length a0.nc, .slice a0.a a0.ks.length a0.cap]); refine (laws_toTerm a0 _ (by exact OA.out.drew) hzA).mono ?_; rintro e w2 ⟨x, rfl, hx, nx, g2⟩; have HX := Lib.hid hx; clear hx; have k2 : ∀ b o, b < wC.heap.size → w2.cell? ⟨b, o, none⟩ = wC.cell? ⟨b, o, none⟩ := fun b o h => (bcell g2).1 b o h)
      | (go_at_call_of 20 (Value.agg #[.int .i64 a1.k, .int .i64 a1.m, .string a1.n, .int .i64 a1.t.k, .string a1.t.n, .slice a1.t.a a1.t.ks.length a1.t.cap, .slice a1.na a1.ns.length a1.nc, .slice a1.a a1.ks.length a1.cap]); refine (laws_toTerm a1 _ (by exact OB.out.drew.grow g2) hzB).mono ?_; rintro e w3 ⟨y, rfl, hy, ny, g3⟩; have HY := Lib.hid hy; clear hy; have k3 : ∀ b o, b < wC.heap.size → w3.cell? ⟨b, o, none⟩ = wC.cell? ⟨b, o, none⟩ := fun b o h => ((bcell g3).1 b o (Nat.lt_of_lt_of_le h g2.size)).trans (k2 b o h))
      | (go_at_call 19; refine (spec_sameT x y _ (nx.1.grow g3) ny.1).mono ?_; rintro e w4 ⟨r, rfl, hr, g4⟩; have k4 : ∀ b o, b < wC.heap.size → w4.cell? ⟨b, o, none⟩ = wC.cell? ⟨b, o, none⟩ := fun b o h => ((bcell g4).1 b o (Nat.lt_of_lt_of_le h (Nat.le_trans g2.size g3.size))).trans (k3 b o h)))
  rw [HX.out, HY.out] at hr
  have HR := Lib.hid hr
  have gA : Gw wC w4 := (((Gw.refl wC).drew.trans g2).trans g3).trans g4
  replace BA := BA.grow gA
  replace BB := BB.grow gA
  replace OA := Lib.hid (OA.out.grow gA)
  replace OB := Lib.hid (OB.out.grow gA)
  replace gW := gW.trans gA
  clear p0 p1 p2 p3 p4 p5 p6 p7 q0 q1 q2 q3 q4 q5 q6 q7 k2 k3 k4 g2 g3 g4 gA hr HX HY nx ny lA lB
  obtain ⟨p0, p1, p2, p3, p4, p5, p6, p7⟩ := BA.c
  go_wp2_with fail
  refine (laws_toTerm a0 _ OA.out hzA).mono ?_
  rintro e w5 ⟨x', rfl, hx, nx, g5⟩
  have HX := Lib.hid hx
  clear p0 p1 p2 p3 p4 p5 p6 p7 hx
  go_upto_region 10 with (fail)
  have gA : Gw w4 (w5.alloc (.cells #[.int .i64 x'.k, .int .i64 x'.m, .string x'.n, .int .i64 x'.t.k, .string x'.t.n, .slice x'.t.a x'.t.ks.length x'.t.cap, .slice x'.na x'.ns.length x'.nc, .slice x'.a x'.ks.length x'.cap] 43)) := g5.alloc _
  replace BA := BA.grow gA
  replace BB := BB.grow gA
  replace OA := Lib.hid (OA.out.grow gA)
  replace OB := Lib.hid (OB.out.grow gA)
  replace gW := gW.trans gA
  have BX := BoxM.new w5 x' 43
  have NX := Lib.hid (nx.grow tmGr ((Gw.refl w5).alloc (.cells #[.int .i64 x'.k, .int .i64 x'.m, .string x'.n, .int .i64 x'.t.k, .string x'.t.n, .slice x'.t.a x'.t.ks.length x'.t.cap, .slice x'.na x'.ns.length x'.nc, .slice x'.a x'.ks.length x'.cap] 43)))
  clear gA g5 nx
  generalize w5.alloc (.cells #[.int .i64 x'.k, .int .i64 x'.m, .string x'.n, .int .i64 x'.t.k, .string x'.t.n, .slice x'.t.a x'.t.ks.length x'.t.cap, .slice x'.na x'.ns.length x'.nc, .slice x'.a x'.ks.length x'.cap] 43) = W5 at *
  obtain ⟨q0, q1, q2, q3, q4, q5, q6, q7⟩ := BB.c
  go_wp2_with fail
  refine (laws_toTerm a1 _ OB.out hzB).mono ?_
  rintro e w6 ⟨y', rfl, hy, ny, g6⟩
  have HY := Lib.hid hy
  clear q0 q1 q2 q3 q4 q5 q6 q7 hy
  go_upto_region 11 with (fail)
  have gA : Gw W5 (w6.alloc (.cells #[.int .i64 y'.k, .int .i64 y'.m, .string y'.n, .int .i64 y'.t.k, .string y'.t.n, .slice y'.t.a y'.t.ks.length y'.t.cap, .slice y'.na y'.ns.length y'.nc, .slice y'.a y'.ks.length y'.cap] 43)) := g6.alloc _
  replace BA := BA.grow gA
  replace BB := BB.grow gA
  replace OA := Lib.hid (OA.out.grow gA)
  replace OB := Lib.hid (OB.out.grow gA)
  replace gW := gW.trans gA
  replace BX := BX.grow gA
  replace NX := Lib.hid (gNew.grow tmGr NX.out gA)
  have BY := BoxM.new w6 y' 43
  have NY := Lib.hid (ny.grow tmGr ((Gw.refl w6).alloc (.cells #[.int .i64 y'.k, .int .i64 y'.m, .string y'.n, .int .i64 y'.t.k, .string y'.t.n, .slice y'.t.a y'.t.ks.length y'.t.cap, .slice y'.na y'.ns.length y'.nc, .slice y'.a y'.ks.length y'.cap] 43)))
  clear gA g6 ny
  generalize w6.alloc (.cells #[.int .i64 y'.k, .int .i64 y'.m, .string y'.n, .int .i64 y'.t.k, .string y'.t.n, .slice y'.t.a y'.t.ks.length y'.t.cap, .slice y'.na y'.ns.length y'.nc, .slice y'.a y'.ks.length y'.cap] 43) = W6 at *
  obtain ⟨p0, p1, p2, p3, p4, p5, p6, p7⟩ := BX.c
  obtain ⟨q0, q1, q2, q3, q4, q5, q6, q7⟩ := BY.c
  go_wp2_with fail
  refine (KTerm.impl_same x' y' _ _ _ NX.out NY.out).mono ?_
  rintro e w7 ⟨r', rfl, hr, g7⟩
  rw [HX.out, HY.out] at hr
  obtain rfl : r' = r := Bool.eq_iff_iff.2 (hr.trans HR.out.symm)
  replace BA := BA.grow g7
  replace BB := BB.grow g7
  replace OA := Lib.hid (OA.out.grow g7)
  replace OB := Lib.hid (OB.out.grow g7)
  replace gW := gW.trans g7
  replace BX := BX.grow g7
  replace BY := BY.grow g7
  replace NX := Lib.hid (gNew.grow tmGr NX.out g7)
  replace NY := Lib.hid (gNew.grow tmGr NY.out g7)
  clear p0 p1 p2 p3 p4 p5 p6 p7 q0 q1 q2 q3 q4 q5 q6 q7 hr HR g7
  go_upto_region 14 with (fail)
  obtain ⟨p0, p1, p2, p3, p4, p5, p6, p7⟩ := BA.c
  obtain ⟨q0, q1, q2, q3, q4, q5, q6, q7⟩ := BX.c
  have lA := BA.lt
  have lX := BX.lt
  go_region_held3 (fun W => W.cell? ⟨w.heap.size, 0, none⟩ = some (.int .i64 a0.k) ∧ W.cell? ⟨w.heap.size, 1, none⟩ = some (.int .i64 a0.m) ∧ W.cell? ⟨w.heap.size, 2, none⟩ = some (.string a0.n) ∧ W.cell? ⟨w.heap.size, 3, none⟩ = some (.int .i64 a0.t.k) ∧ W.cell? ⟨w.heap.size, 4, none⟩ = some (.string a0.t.n) ∧ W.cell? ⟨w.heap.size, 5, none⟩ = some (.slice a0.t.a a0.t.ks.length a0.t.cap) ∧ W.cell? ⟨w.heap.size, 6, none⟩ = some (.slice a0.na a0.ns.length a0.nc) ∧ W.cell? ⟨w.heap.size, 7, none⟩ = some (.slice a0.a a0.ks.length a0.cap) ∧ W.cell? ⟨w5.heap.size, 0, none⟩ = some (.int .i64 x'.k) ∧ W.cell? ⟨w5.heap.size, 1, none⟩ = some (.int .i64 x'.m) ∧ W.cell? ⟨w5.heap.size, 2, none⟩ = some (.string x'.n) ∧ W.cell? ⟨w5.heap.size, 3, none⟩ = some (.int .i64 x'.t.k) ∧ W.cell? ⟨w5.heap.size, 4, none⟩ = some (.string x'.t.n) ∧ W.cell? ⟨w5.heap.size, 5, none⟩ = some (.slice x'.t.a x'.t.ks.length x'.t.cap) ∧ W.cell? ⟨w5.heap.size, 6, none⟩ = some (.slice x'.na x'.ns.length x'.nc) ∧ W.cell? ⟨w5.heap.size, 7, none⟩ = some (.slice x'.a x'.ks.length x'.cap))
    (first | exact ⟨p0, p1, p2, p3, p4, p5, p6, p7, q0, q1, q2, q3, q4, q5, q6, q7⟩ | exact ⟨(k2 _ _ lA).trans p0, (k2 _ _ lA).trans p1, (k2 _ _ lA).trans p2, (k2 _ _ lA).trans p3, (k2 _ _ lA).trans p4, (k2 _ _ lA).trans p5, (k2 _ _ lA).trans p6, (k2 _ _ lA).trans p7, (k2 _ _ lX).trans q0, (k2 _ _ lX).trans q1, (k2 _ _ lX).trans q2, (k2 _ _ lX).trans q3, (k2 _ _ lX).trans q4, (k2 _ _ lX).trans q5, (k2 _ _ lX).trans q6, (k2 _ _ lX).trans q7⟩ | exact ⟨(k3 _ _ lA).trans p0, (k3 _ _ lA).trans p1, (k3 _ _ lA).trans p2, (k3 _ _ lA).trans p3, (k3 _ _ lA).trans p4, (k3 _ _ lA).trans p5, (k3 _ _ lA).trans p6, (k3 _ _ lA).trans p7, (k3 _ _ lX).trans q0, (k3 _ _ lX).trans q1, (k3 _ _ lX).trans q2, (k3 _ _ lX).trans q3, (k3 _ _ lX).trans q4, (k3 _ _ lX).trans q5, (k3 _ _ lX).trans q6, (k3 _ _ lX).trans q7⟩)
    (first
      | (go_at_call 20; refine (laws_toTerm a0 _ (by exact OA.out.drew) hzA).mono ?_; rintro e w8 ⟨z, rfl, hz, nz, g8⟩; have HZ := Lib.hid hz; clear hz; have k2 : ∀ b o, b < w7.heap.size → w8.cell? ⟨b, o, none⟩ = w7.cell? ⟨b, o, none⟩ := fun b o h => (bcell g8).1 b o h)
      | (go_at_call 22; refine (laws_eqTerm x' z _ (by exact NX.out.1.drew.grow g8) nz.1 (by rw [HX.out, HZ.out])).mono ?_; rintro e w9 ⟨rfl, g9⟩; have k3 : ∀ b o, b < w7.heap.size → w9.cell? ⟨b, o, none⟩ = w7.cell? ⟨b, o, none⟩ := fun b o h => ((bcell g9).1 b o (Nat.lt_of_lt_of_le h g8.size)).trans (k2 b o h)))
  have gA : Gw w7 w9 := ((Gw.refl w7).drew.trans g8).trans g9
  replace BB := BB.grow gA
  replace OB := Lib.hid (OB.out.grow gA)
  replace gW := gW.trans gA
  replace BY := BY.grow gA
  replace NY := Lib.hid (gNew.grow tmGr NY.out gA)
  clear p0 p1 p2 p3 p4 p5 p6 p7 q0 q1 q2 q3 q4 q5 q6 q7 k2 k3 g8 g9 gA lA lX BA BX NX OA HZ nz
  go_upto_region 16 with (fail)
  obtain ⟨p0, p1, p2, p3, p4, p5, p6, p7⟩ := BB.c
  obtain ⟨q0, q1, q2, q3, q4, q5, q6, q7⟩ := BY.c
  have lA := BB.lt
  have lX := BY.lt
  go_region_held3 (fun W => W.cell? ⟨w.heap.size + 1, 0, none⟩ = some (.int .i64 a1.k) ∧ W.cell? ⟨w.heap.size + 1, 1, none⟩ = some (.int .i64 a1.m) ∧ W.cell? ⟨w.heap.size + 1, 2, none⟩ = some (.string a1.n) ∧ W.cell? ⟨w.heap.size + 1, 3, none⟩ = some (.int .i64 a1.t.k) ∧ W.cell? ⟨w.heap.size + 1, 4, none⟩ = some (.string a1.t.n) ∧ W.cell? ⟨w.heap.size + 1, 5, none⟩ = some (.slice a1.t.a a1.t.ks.length a1.t.cap) ∧ W.cell? ⟨w.heap.size + 1, 6, none⟩ = some (.slice a1.na a1.ns.length a1.nc) ∧ W.cell? ⟨w.heap.size + 1, 7, none⟩ = some (.slice a1.a a1.ks.length a1.cap) ∧ W.cell? ⟨w6.heap.size, 0, none⟩ = some (.int .i64 y'.k) ∧ W.cell? ⟨w6.heap.size, 1, none⟩ = some (.int .i64 y'.m) ∧ W.cell? ⟨w6.heap.size, 2, none⟩ = some (.string y'.n) ∧ W.cell? ⟨w6.heap.size, 3, none⟩ = some (.int .i64 y'.t.k) ∧ W.cell? ⟨w6.heap.size, 4, none⟩ = some (.string y'.t.n) ∧ W.cell? ⟨w6.heap.size, 5, none⟩ = some (.slice y'.t.a y'.t.ks.length y'.t.cap) ∧ W.cell? ⟨w6.heap.size, 6, none⟩ = some (.slice y'.na y'.ns.length y'.nc) ∧ W.cell? ⟨w6.heap.size, 7, none⟩ = some (.slice y'.a y'.ks.length y'.cap))
    (first | exact ⟨p0, p1, p2, p3, p4, p5, p6, p7, q0, q1, q2, q3, q4, q5, q6, q7⟩ | exact ⟨(k2 _ _ lA).trans p0, (k2 _ _ lA).trans p1, (k2 _ _ lA).trans p2, (k2 _ _ lA).trans p3, (k2 _ _ lA).trans p4, (k2 _ _ lA).trans p5, (k2 _ _ lA).trans p6, (k2 _ _ lA).trans p7, (k2 _ _ lX).trans q0, (k2 _ _ lX).trans q1, (k2 _ _ lX).trans q2, (k2 _ _ lX).trans q3, (k2 _ _ lX).trans q4, (k2 _ _ lX).trans q5, (k2 _ _ lX).trans q6, (k2 _ _ lX).trans q7⟩ | exact ⟨(k3 _ _ lA).trans p0, (k3 _ _ lA).trans p1, (k3 _ _ lA).trans p2, (k3 _ _ lA).trans p3, (k3 _ _ lA).trans p4, (k3 _ _ lA).trans p5, (k3 _ _ lA).trans p6, (k3 _ _ lA).trans p7, (k3 _ _ lX).trans q0, (k3 _ _ lX).trans q1, (k3 _ _ lX).trans q2, (k3 _ _ lX).trans q3, (k3 _ _ lX).trans q4, (k3 _ _ lX).trans q5, (k3 _ _ lX).trans q6, (k3 _ _ lX).trans q7⟩)
    (first
      | (go_at_call 20; refine (laws_toTerm a1 _ (by exact OB.out.drew) hzB).mono ?_; rintro e w10 ⟨z, rfl, hz, nz, g8⟩; have HZ := Lib.hid hz; clear hz; have k2 : ∀ b o, b < w9.heap.size → w10.cell? ⟨b, o, none⟩ = w9.cell? ⟨b, o, none⟩ := fun b o h => (bcell g8).1 b o h)
      | (go_at_call 22; refine (laws_eqTerm y' z _ (by exact NY.out.1.drew.grow g8) nz.1 (by rw [HY.out, HZ.out])).mono ?_; rintro e w11 ⟨rfl, g9⟩; have k3 : ∀ b o, b < w9.heap.size → w11.cell? ⟨b, o, none⟩ = w9.cell? ⟨b, o, none⟩ := fun b o h => ((bcell g9).1 b o (Nat.lt_of_lt_of_le h g8.size)).trans (k2 b o h)))
  go_wp2_with fail
  go_ret
  exact ⟨rfl, (gW.drew.trans g8).trans g9⟩

set_option maxRecDepth 100000 in
theorem lifted (os : Os) (started : os.Started) (H : Type) (enc : TypeId × Value → H) :
    ReturnsInHanded {} Try.checked os 5 .any (Rows.fnExactSameTermSpec.pre6 enc Try.prog Try.f5 Rows.fnExactSameTermRow.domain false) (Rows.fnExactSameTermSpec.post enc Try.prog Try.f5 false true false false) := by
  refine returnsInHanded_of_change (C := Try.checked) own started (by kernel_rfl) Try.func5
    (ChangeSpec.witness6 (enc := enc) (C := Try.checked) false ⟨#[], #[.agg #[.int .i64 0, .int .i64 0, .string ⟨#[]⟩, .int .i64 0, .string ⟨#[]⟩, .slice none 0 0, .slice none 0 0, .slice none 0 0], .agg #[.int .i64 0, .int .i64 0, .string ⟨#[]⟩, .int .i64 0, .string ⟨#[]⟩, .slice none 0 0, .slice none 0 0, .slice none 0 0]], []⟩ 8 (by kernel_rfl) (by kernel_rfl) (by kernel_rfl) (by kernel_rfl)) ?_
  intro W base args ds gs before hval0 hW _ _
  have hval : ∀ (j : Nat) t v, Try.f5.params[j]? = some t → args[j]? = some v → Value.okWide Try.prog W .any base t v := hval0
  have hW' := hW
  obtain ⟨p, q, hA0, hV0, rfl, hfz, hnd⟩ := hW
  have hA : DataW.TrodAll enc Try.prog W 0 (fun _ => true) true Try.f5.params.toList args.toList ds p := hA0
  rw [Try.params5] at hA hval
  obtain ⟨v0, vs0, d0, ds0, p0, q0, hargs, rfl, rfl, h0, r0⟩ := trodAll_cons hA
  obtain ⟨v1, vs1, d1, ds1, p1, q1, rfl, rfl, rfl, h1, r1⟩ := trodAll_cons r0
  obtain ⟨rfl, rfl, rfl⟩ := trodAll_nil r1
  obtain rfl : args = #[v0, v1] := by cases args; simp_all
  obtain ⟨a0, rfl, w0⟩ := open_term (hval 0 38 v0 rfl rfl) h0
  obtain ⟨a1, rfl, w1⟩ := open_term (hval 1 38 v1 rfl rfl) h1
  obtain ⟨rfl, rfl⟩ := trodVars_none hV0
  refine (walk W a0 w0 a1 w1).mono fun e W' ⟨he, hg⟩ => ?_
  subst he
  exact ⟨_, rfl, post_law laidOut (by kernel_rfl) (by kernel_rfl) rfl Try.underlying4 hW' hg rfl⟩

theorem proved : Rows.FnExactSameTermSaid :=
  OpenClaim.holds_of_wide 5 Try.f5 rfl rfl rfl rfl rfl rfl rfl ⟨rfl, rfl, rfl, rfl, rfl⟩ rfl rfl rfl rfl rfl (by kernel_rfl) Try.func5 (by kernel_rfl)
    (of_decide_eq_true (by kernel_rfl)) (by unfold Func.isWrapper; first | (rw [if_pos (by decide +kernel)]; kernel_rfl) | (rw [if_neg (by decide +kernel)]; exact ⟨rfl, rfl⟩))
    (fun os started H enc _ => lifted os started H enc)
#print axioms proved
end Go.Proofs.Ytbbldkhlclfmkaa.fnExactSameTerm
