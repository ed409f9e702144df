/-
  Proved: for all books b and states m the law FnExactIsFinished returns true and leaves its arguments as they were. Condition: the program's table coreForms reads as its text lays it.
-/
import Derived.Test.YtkpbiifikkbaeaaDoorNdVn
import Derived.Test.YtkpbiifikkbaeaaDoorNdEq
import Derived.Test.YtkpbiifikkbaeaaDoorNdTo
import Derived.Test.YtkpbiifikkbaeaaDoorLy
import Derived.Deep.RegionHeld3
import Derived.Deep.Cut
import Derived.Test.YtkpbiifikkbaeaaDoorCards
import Derived.Test.YtkpbiifikkbaeaaDoorTie
import Derived.LaidMore
import Derived.Lay
import Derived.SevenTiedAt
import Derived.Stop.Joined
namespace Go.Proofs.YtkpbiifikkbaeaaDoor.fnExactIsFinished
open Go.ChangeShapes Go.WideShapes Go.ChangeAt Go.RowKit Con
set_option linter.unusedVariables false
theorem own : ownKnob Tryd.prog.godebug = none := by kernel_rfl
theorem laidOut : laidOutB Tryd.prog = true := by kernel_rfl

set_option maxRecDepth 100000 in
set_option maxHeartbeats 4000000 in
theorem walk (w : World) (a0 : LB) (w0 : bOk w a0) (a1 : LNd) (w1 : ndOk w a1) (hT : laidMetH Tryd.prog Rows.fnExactIsFinishedRow.laid w) :
    Calls Tryd.prog 5 #[a0.val, a1.val] w fun e w' => e = .returned (.bool true) ∧ Gw w w' := by
  have TB := Lib.hid (show KTbl w from ktbl_of (by have h2 : laidMetH Tryd.prog Rows.fnExactIsFinishedRow.laid w := hT; rw [MakeChecks.laidMetH_plain _ _ _ (by kernel_rfl)] at h2; exact h2))
  clear hT
  have gW : Gw w ((w.alloc (.cells #[.slice a0.a a0.ks.length a0.cap] 24)).alloc (.cells #[.int .i64 a1.c.t.k, .int .i64 a1.c.t.v, .slice a1.c.t.da a1.c.t.ds.length a1.c.t.dc, .slice a1.c.t.a a1.c.t.ks.length a1.c.t.cap, .slice a1.c.ea a1.c.e.length a1.c.ec, .slice a1.sa a1.s.length a1.sc, .slice a1.ha a1.h.length a1.hc] 33)) := ((Gw.refl w).alloc _).alloc _
  have B0 : gAt bkE bOk (w.alloc (.cells #[.slice a0.a a0.ks.length a0.cap] 24)) (w).heap.size 0 a0 := gAt.new bkGr (w := w) (cs := #[.slice a0.a a0.ks.length a0.cap]) (e := 24) rfl (bkGr _ _ _ w0 (Gw.refl w))
  replace B0 : gAt bkE bOk ((w.alloc (.cells #[.slice a0.a a0.ks.length a0.cap] 24)).alloc (.cells #[.int .i64 a1.c.t.k, .int .i64 a1.c.t.v, .slice a1.c.t.da a1.c.t.ds.length a1.c.t.dc, .slice a1.c.t.a a1.c.t.ks.length a1.c.t.cap, .slice a1.c.ea a1.c.e.length a1.c.ec, .slice a1.sa a1.s.length a1.sc, .slice a1.ha a1.h.length a1.hc] 33)) (w).heap.size 0 a0 := gAt.grow bkGr B0 ((Gw.refl _).alloc _)
  have B1 : gAt ndE ndOk ((w.alloc (.cells #[.slice a0.a a0.ks.length a0.cap] 24)).alloc (.cells #[.int .i64 a1.c.t.k, .int .i64 a1.c.t.v, .slice a1.c.t.da a1.c.t.ds.length a1.c.t.dc, .slice a1.c.t.a a1.c.t.ks.length a1.c.t.cap, .slice a1.c.ea a1.c.e.length a1.c.ec, .slice a1.sa a1.s.length a1.sc, .slice a1.ha a1.h.length a1.hc] 33)) ((w.alloc (.cells #[.slice a0.a a0.ks.length a0.cap] 24))).heap.size 0 a1 := gAt.new ndGr (w := (w.alloc (.cells #[.slice a0.a a0.ks.length a0.cap] 24))) (cs := #[.int .i64 a1.c.t.k, .int .i64 a1.c.t.v, .slice a1.c.t.da a1.c.t.ds.length a1.c.t.dc, .slice a1.c.t.a a1.c.t.ks.length a1.c.t.cap, .slice a1.c.ea a1.c.e.length a1.c.ec, .slice a1.sa a1.s.length a1.sc, .slice a1.ha a1.h.length a1.hc]) (e := 33) rfl (ndGr _ _ _ w1 ((Gw.refl w).alloc _))
  replace B1 : gAt ndE ndOk ((w.alloc (.cells #[.slice a0.a a0.ks.length a0.cap] 24)).alloc (.cells #[.int .i64 a1.c.t.k, .int .i64 a1.c.t.v, .slice a1.c.t.da a1.c.t.ds.length a1.c.t.dc, .slice a1.c.t.a a1.c.t.ks.length a1.c.t.cap, .slice a1.c.ea a1.c.e.length a1.c.ec, .slice a1.sa a1.s.length a1.sc, .slice a1.ha a1.h.length a1.hc] 33)) ((w.alloc (.cells #[.slice a0.a a0.ks.length a0.cap] 24))).heap.size 0 a1 := gAt.grow ndGr B1 (Gw.refl _)
  simp only [World.size_alloc] at B1
  clear w0 w1
  go_enter Tryd.func5, Tryd.ntmps5
  go_upto_region 2 with (fail)
  generalize ((w.alloc (.cells #[.slice a0.a a0.ks.length a0.cap] 24)).alloc (.cells #[.int .i64 a1.c.t.k, .int .i64 a1.c.t.v, .slice a1.c.t.da a1.c.t.ds.length a1.c.t.dc, .slice a1.c.t.a a1.c.t.ks.length a1.c.t.cap, .slice a1.c.ea a1.c.e.length a1.c.ec, .slice a1.sa a1.s.length a1.sc, .slice a1.ha a1.h.length a1.hc] 33)) = wA at *
  replace B0 := Lib.hid B0
  replace B1 := Lib.hid B1
  have p0 := B0.out.1 0 _ rfl
  simp only [Nat.zero_add] at p0
  go_wp2_with fail
  refine (laws_szBook a0 _ _ B0.out.2 (by omega) (by omega)).mono ?_
  rintro e wS0 ⟨he, gB⟩
  subst he
  replace B0 := Lib.hid (B0.out.grow bkGr gB)
  replace B1 := Lib.hid (B1.out.grow ndGr gB)
  replace gW := gW.trans gB
  clear gB p0
  by_cases hs0 : (1048576 : Int) < a0.sz
  · have HS : szR (1048576) a0.sz = -1 := if_neg (by omega)
    rw [HS]
    go_wp2_with fail
    go_ret
    exact ⟨rfl, gW⟩
  have HS : szR (1048576) a0.sz = 1048576 - a0.sz := if_pos (by omega)
  rw [HS]
  have hp : ¬ ((1048576 : Int) - a0.sz < 0) := by omega
  clear HS
  have p0 := B1.out.1 0 _ rfl
  have p1 := B1.out.1 1 _ rfl
  have p2 := B1.out.1 2 _ rfl
  have p3 := B1.out.1 3 _ rfl
  have p4 := B1.out.1 4 _ rfl
  have p5 := B1.out.1 5 _ rfl
  have p6 := B1.out.1 6 _ rfl
  simp only [Nat.zero_add] at p0 p1 p2 p3 p4 p5 p6
  go_wp2_with fail
  refine (laws_szNeed a1 _ _ B1.out.2 (by omega) (by omega)).mono ?_
  rintro e wS1 ⟨he, gB⟩
  subst he
  replace B0 := Lib.hid (B0.out.grow bkGr gB)
  replace B1 := Lib.hid (B1.out.grow ndGr gB)
  replace gW := gW.trans gB
  clear gB p0 p1 p2 p3 p4 p5 p6 hp
  by_cases hs1 : (1048576 - a0.sz : Int) < a1.sz
  · have HS : szR (1048576 - a0.sz) a1.sz = -1 := if_neg (by omega)
    rw [HS]
    go_wp2_with fail
    go_ret
    exact ⟨rfl, gW⟩
  have HS : szR (1048576 - a0.sz) a1.sz = 1048576 - a0.sz - a1.sz := if_pos (by omega)
  rw [HS]
  have hp : ¬ ((1048576 - a0.sz : Int) - a1.sz < 0) := by omega
  clear HS
  have hz0 : a0.sz ≤ 1048576 := by omega
  have hz1 : a1.sz ≤ 1048576 := by omega
  have HZ := Lib.hid (show a0.sz ≤ 1048576 ∧ a1.sz ≤ 1048576 from ⟨hz0, hz1⟩)
  go_upto_region 8 with (fail)
  clear hp hs0 hz0 hs1 hz1
  have p0_0 := B0.out.1 0 _ rfl
  simp only [Nat.zero_add] at p0_0
  have p1_0 := B1.out.1 0 _ rfl
  have p1_1 := B1.out.1 1 _ rfl
  have p1_2 := B1.out.1 2 _ rfl
  have p1_3 := B1.out.1 3 _ rfl
  have p1_4 := B1.out.1 4 _ rfl
  have p1_5 := B1.out.1 5 _ rfl
  have p1_6 := B1.out.1 6 _ rfl
  simp only [Nat.zero_add] at p1_0 p1_1 p1_2 p1_3 p1_4 p1_5 p1_6
  have l0 := cell_lt p0_0
  have l1 := cell_lt p1_0
  go_region_held3 (fun W => W.cell? ⟨w.heap.size, 0, none⟩ = some (.slice a0.a a0.ks.length a0.cap) ∧ W.cell? ⟨w.heap.size + 1, 0, none⟩ = some (.int .i64 a1.c.t.k) ∧ W.cell? ⟨w.heap.size + 1, 1, none⟩ = some (.int .i64 a1.c.t.v) ∧ W.cell? ⟨w.heap.size + 1, 2, none⟩ = some (.slice a1.c.t.da a1.c.t.ds.length a1.c.t.dc) ∧ W.cell? ⟨w.heap.size + 1, 3, none⟩ = some (.slice a1.c.t.a a1.c.t.ks.length a1.c.t.cap) ∧ W.cell? ⟨w.heap.size + 1, 4, none⟩ = some (.slice a1.c.ea a1.c.e.length a1.c.ec) ∧ W.cell? ⟨w.heap.size + 1, 5, none⟩ = some (.slice a1.sa a1.s.length a1.sc) ∧ W.cell? ⟨w.heap.size + 1, 6, none⟩ = some (.slice a1.ha a1.h.length a1.hc))
    (first | exact ⟨p0_0, p1_0, p1_1, p1_2, p1_3, p1_4, p1_5, p1_6⟩ | exact ⟨(k2 _ _ l0).trans p0_0, (k2 _ _ l1).trans p1_0, (k2 _ _ l1).trans p1_1, (k2 _ _ l1).trans p1_2, (k2 _ _ l1).trans p1_3, (k2 _ _ l1).trans p1_4, (k2 _ _ l1).trans p1_5, (k2 _ _ l1).trans p1_6⟩ | exact ⟨(k3 _ _ l0).trans p0_0, (k3 _ _ l1).trans p1_0, (k3 _ _ l1).trans p1_1, (k3 _ _ l1).trans p1_2, (k3 _ _ l1).trans p1_3, (k3 _ _ l1).trans p1_4, (k3 _ _ l1).trans p1_5, (k3 _ _ l1).trans p1_6⟩ | exact ⟨(k4 _ _ l0).trans p0_0, (k4 _ _ l1).trans p1_0, (k4 _ _ l1).trans p1_1, (k4 _ _ l1).trans p1_2, (k4 _ _ l1).trans p1_3, (k4 _ _ l1).trans p1_4, (k4 _ _ l1).trans p1_5, (k4 _ _ l1).trans p1_6⟩)
    (first
      | (go_at_call_of 9 (Value.agg #[.slice a0.a a0.ks.length a0.cap]); refine (ly_toBook a0 _ (by exact bkGr _ _ _ B0.out.2 ((Gw.refl wS1).drew)) HZ.out.1).mono ?_; rintro e wT0 ⟨x0, rfl, hx0, nx0, gT0⟩; have HX0 := Lib.hid hx0; clear hx0; have k2 : ∀ b o, b < wS1.heap.size → wT0.cell? ⟨b, o, none⟩ = wS1.cell? ⟨b, o, none⟩ := fun b o h => (bcell gT0).1 b o h)
      | (go_at_call_of 10 (Value.agg #[.int .i64 a1.c.t.k, .int .i64 a1.c.t.v, .slice a1.c.t.da a1.c.t.ds.length a1.c.t.dc, .slice a1.c.t.a a1.c.t.ks.length a1.c.t.cap, .slice a1.c.ea a1.c.e.length a1.c.ec, .slice a1.sa a1.s.length a1.sc, .slice a1.ha a1.h.length a1.hc]); refine (laws_toNeed a1 _ (by exact ndGr _ _ _ B1.out.2 (((Gw.refl wS1).drew).trans gT0)) HZ.out.2).mono ?_; rintro e wT1 ⟨x1, rfl, hx1, nx1, gT1⟩; have HX1 := Lib.hid hx1; clear hx1; have k3 : ∀ b o, b < wS1.heap.size → wT1.cell? ⟨b, o, none⟩ = wS1.cell? ⟨b, o, none⟩ := fun b o h => ((bcell gT1).1 b o (Nat.lt_of_lt_of_le h (((Gw.refl wS1).drew).trans gT0).size)).trans (k2 b o h))
      | (go_at_call 23; refine ((spec_finNd x0 x1 _ (bkGr _ _ _ nx0.1 ((Gw.refl _).trans gT1)) (ndGr _ _ _ nx1.1 (Gw.refl _)) (smN_of HX1.out HZ.out.2)).mono (fun e w' h => (⟨okNd x0.cs x1.pu && doneC x1.pu, h.1, Iff.rfl, h.2⟩ : ∃ r : Bool, e = .returned (.bool r) ∧ (r = true ↔ (okNd x0.cs x1.pu && doneC x1.pu) = true) ∧ Gw _ w'))).mono ?_; rintro e wT ⟨r, rfl, hr, gT⟩; have k4 : ∀ b o, b < wS1.heap.size → wT.cell? ⟨b, o, none⟩ = wS1.cell? ⟨b, o, none⟩ := fun b o h => ((bcell gT).1 b o (Nat.lt_of_lt_of_le h ((((Gw.refl wS1).drew).trans gT0).trans gT1).size)).trans (k3 b o h)))
  rw [HX0.out, HX1.out] at hr
  have HR := Lib.hid hr
  have gA : Gw wS1 wT := ((((Gw.refl wS1).drew).trans gT0).trans gT1).trans gT
  replace B0 := Lib.hid (B0.out.grow bkGr gA)
  replace B1 := Lib.hid (B1.out.grow ndGr gA)
  replace gW := gW.trans gA
  clear gA gT hr gT0 gT1 k2 k3 k4 HX0 nx0 HX1 nx1 l0 p0_0 l1 p1_0 p1_1 p1_2 p1_3 p1_4 p1_5 p1_6
  have p0 := B0.out.1 0 _ rfl
  simp only [Nat.zero_add] at p0
  go_wp2_with fail
  refine (ly_toBook a0 _ B0.out.2 HZ.out.1).mono ?_
  rintro e v0 ⟨y0, rfl, hy, ny, gB⟩
  have HY0 := Lib.hid hy
  clear hy p0
  go_upto_region 10 with (fail)
  have gA : Gw wT (v0.alloc (.cells #[.slice y0.a y0.ks.length y0.cap] 39)) := gB.alloc _
  replace B0 := Lib.hid (B0.out.grow bkGr gA)
  replace B1 := Lib.hid (B1.out.grow ndGr gA)
  replace gW := gW.trans gA
  have X0 := Lib.hid (gAt.new bkGr (w := v0) (cs := #[.slice y0.a y0.ks.length y0.cap]) (e := 39) rfl ny.1 : gAt bkE bOk _ _ 0 y0)
  have N0 := Lib.hid (gNew.grow bkGr ny ((Gw.refl v0).alloc (.cells #[.slice y0.a y0.ks.length y0.cap] 39)))
  clear gA gB ny
  generalize v0.alloc (.cells #[.slice y0.a y0.ks.length y0.cap] 39) = V0 at *
  obtain ⟨bx0, hbx⟩ : ∃ b, b = v0.heap.size := ⟨_, rfl⟩
  rw [← hbx] at X0
  rw [← hbx]
  clear hbx
  have p0 := B1.out.1 0 _ rfl
  have p1 := B1.out.1 1 _ rfl
  have p2 := B1.out.1 2 _ rfl
  have p3 := B1.out.1 3 _ rfl
  have p4 := B1.out.1 4 _ rfl
  have p5 := B1.out.1 5 _ rfl
  have p6 := B1.out.1 6 _ rfl
  simp only [Nat.zero_add] at p0 p1 p2 p3 p4 p5 p6
  go_wp2_with fail
  refine (laws_toNeed a1 _ B1.out.2 HZ.out.2).mono ?_
  rintro e v1 ⟨y1, rfl, hy, ny, gB⟩
  have HY1 := Lib.hid hy
  clear hy p0 p1 p2 p3 p4 p5 p6
  go_upto_region 11 with (fail)
  have gA : Gw V0 (v1.alloc (.cells #[.int .i64 y1.c.t.k, .int .i64 y1.c.t.v, .slice y1.c.t.da y1.c.t.ds.length y1.c.t.dc, .slice y1.c.t.a y1.c.t.ks.length y1.c.t.cap, .slice y1.c.ea y1.c.e.length y1.c.ec, .slice y1.sa y1.s.length y1.sc, .slice y1.ha y1.h.length y1.hc] 48)) := gB.alloc _
  replace B0 := Lib.hid (B0.out.grow bkGr gA)
  replace B1 := Lib.hid (B1.out.grow ndGr gA)
  replace gW := gW.trans gA
  replace X0 := Lib.hid (X0.out.grow bkGr gA)
  replace N0 := Lib.hid (gNew.grow bkGr N0.out gA)
  have X1 := Lib.hid (gAt.new ndGr (w := v1) (cs := #[.int .i64 y1.c.t.k, .int .i64 y1.c.t.v, .slice y1.c.t.da y1.c.t.ds.length y1.c.t.dc, .slice y1.c.t.a y1.c.t.ks.length y1.c.t.cap, .slice y1.c.ea y1.c.e.length y1.c.ec, .slice y1.sa y1.s.length y1.sc, .slice y1.ha y1.h.length y1.hc]) (e := 48) rfl ny.1 : gAt ndE ndOk _ _ 0 y1)
  have N1 := Lib.hid (gNew.grow ndGr ny ((Gw.refl v1).alloc (.cells #[.int .i64 y1.c.t.k, .int .i64 y1.c.t.v, .slice y1.c.t.da y1.c.t.ds.length y1.c.t.dc, .slice y1.c.t.a y1.c.t.ks.length y1.c.t.cap, .slice y1.c.ea y1.c.e.length y1.c.ec, .slice y1.sa y1.s.length y1.sc, .slice y1.ha y1.h.length y1.hc] 48)))
  clear gA gB ny
  generalize v1.alloc (.cells #[.int .i64 y1.c.t.k, .int .i64 y1.c.t.v, .slice y1.c.t.da y1.c.t.ds.length y1.c.t.dc, .slice y1.c.t.a y1.c.t.ks.length y1.c.t.cap, .slice y1.c.ea y1.c.e.length y1.c.ec, .slice y1.sa y1.s.length y1.sc, .slice y1.ha y1.h.length y1.hc] 48) = V1 at *
  obtain ⟨bx1, hbx⟩ : ∃ b, b = v1.heap.size := ⟨_, rfl⟩
  rw [← hbx] at X1
  rw [← hbx]
  clear hbx
  have p0_0 := X0.out.1 0 _ rfl
  simp only [Nat.zero_add] at p0_0
  have p1_0 := X1.out.1 0 _ rfl
  have p1_1 := X1.out.1 1 _ rfl
  have p1_2 := X1.out.1 2 _ rfl
  have p1_3 := X1.out.1 3 _ rfl
  have p1_4 := X1.out.1 4 _ rfl
  have p1_5 := X1.out.1 5 _ rfl
  have p1_6 := X1.out.1 6 _ rfl
  simp only [Nat.zero_add] at p1_0 p1_1 p1_2 p1_3 p1_4 p1_5 p1_6
  go_wp2_with fail
  refine ((impl_finNd y0 y1 _ N0.out.1 N1.out.1 (TB.out.grow gW)).mono (fun e w' h => (⟨okNd y0.cs y1.pu && doneC y1.pu, h.1, Iff.rfl, h.2⟩ : ∃ r : Bool, e = .returned (.bool r) ∧ (r = true ↔ (okNd y0.cs y1.pu && doneC y1.pu) = true) ∧ Gw _ w'))).mono ?_
  rintro e wP ⟨r', rfl, hr, gP⟩
  rw [HY0.out, HY1.out] at hr
  obtain rfl : r' = r := Bool.eq_iff_iff.2 (hr.trans HR.out.symm)
  replace B0 := Lib.hid (B0.out.grow bkGr gP)
  replace B1 := Lib.hid (B1.out.grow ndGr gP)
  replace gW := gW.trans gP
  replace X0 := Lib.hid (X0.out.grow bkGr gP)
  replace N0 := Lib.hid (gNew.grow bkGr N0.out gP)
  replace X1 := Lib.hid (X1.out.grow ndGr gP)
  replace N1 := Lib.hid (gNew.grow ndGr N1.out gP)
  clear hr HR gP p0_0 p1_0 p1_1 p1_2 p1_3 p1_4 p1_5 p1_6
  go_upto_region 14 with (fail)
  have p0 := B0.out.1 0 _ rfl
  simp only [Nat.zero_add] at p0
  have q0 := X0.out.1 0 _ rfl
  simp only [Nat.zero_add] at q0
  have lA := cell_lt p0
  have lX := cell_lt q0
  go_region_held3 (fun W => W.cell? ⟨w.heap.size, 0, none⟩ = some (.slice a0.a a0.ks.length a0.cap) ∧ W.cell? ⟨bx0, 0, none⟩ = some (.slice y0.a y0.ks.length y0.cap))
    (first | exact ⟨p0, q0⟩ | exact ⟨(k2 _ _ lA).trans p0, (k2 _ _ lX).trans q0⟩ | exact ⟨(k3 _ _ lA).trans p0, (k3 _ _ lX).trans q0⟩)
    (first
      | (go_at_call 9; refine (ly_toBook a0 _ (by exact bkGr _ _ _ B0.out.2 (Gw.refl wP).drew) HZ.out.1).mono ?_; rintro e wE0 ⟨z, rfl, hz, nz, g8⟩; have HZZ := Lib.hid hz; clear hz; have k2 : ∀ b o, b < wP.heap.size → wE0.cell? ⟨b, o, none⟩ = wP.cell? ⟨b, o, none⟩ := fun b o h => (bcell g8).1 b o h)
      | (go_at_call 12; refine (laws_eqBook y0 z _ (by exact bkGr _ _ _ N0.out.1 ((Gw.refl wP).drew.trans g8)) nz.1 (by rw [HY0.out, HZZ.out])).mono ?_; rintro e wF0 ⟨rfl, g9⟩; have k3 : ∀ b o, b < wP.heap.size → wF0.cell? ⟨b, o, none⟩ = wP.cell? ⟨b, o, none⟩ := fun b o h => ((bcell g9).1 b o (Nat.lt_of_lt_of_le h g8.size)).trans (k2 b o h)))
  have gA : Gw wP wF0 := ((Gw.refl wP).drew.trans g8).trans g9
  replace B0 := Lib.hid (B0.out.grow bkGr gA)
  replace B1 := Lib.hid (B1.out.grow ndGr gA)
  replace gW := gW.trans gA
  replace X0 := Lib.hid (X0.out.grow bkGr gA)
  replace N0 := Lib.hid (gNew.grow bkGr N0.out gA)
  replace X1 := Lib.hid (X1.out.grow ndGr gA)
  replace N1 := Lib.hid (gNew.grow ndGr N1.out gA)
  clear k2 k3 g8 g9 gA lA lX HZZ nz p0 q0
  go_upto_region 16 with (fail)
  have p0 := B1.out.1 0 _ rfl
  have p1 := B1.out.1 1 _ rfl
  have p2 := B1.out.1 2 _ rfl
  have p3 := B1.out.1 3 _ rfl
  have p4 := B1.out.1 4 _ rfl
  have p5 := B1.out.1 5 _ rfl
  have p6 := B1.out.1 6 _ rfl
  simp only [Nat.zero_add] at p0 p1 p2 p3 p4 p5 p6
  have q0 := X1.out.1 0 _ rfl
  have q1 := X1.out.1 1 _ rfl
  have q2 := X1.out.1 2 _ rfl
  have q3 := X1.out.1 3 _ rfl
  have q4 := X1.out.1 4 _ rfl
  have q5 := X1.out.1 5 _ rfl
  have q6 := X1.out.1 6 _ rfl
  simp only [Nat.zero_add] at q0 q1 q2 q3 q4 q5 q6
  have lA := cell_lt p0
  have lX := cell_lt q0
  go_region_held3 (fun W => W.cell? ⟨w.heap.size + 1, 0, none⟩ = some (.int .i64 a1.c.t.k) ∧ W.cell? ⟨w.heap.size + 1, 1, none⟩ = some (.int .i64 a1.c.t.v) ∧ W.cell? ⟨w.heap.size + 1, 2, none⟩ = some (.slice a1.c.t.da a1.c.t.ds.length a1.c.t.dc) ∧ W.cell? ⟨w.heap.size + 1, 3, none⟩ = some (.slice a1.c.t.a a1.c.t.ks.length a1.c.t.cap) ∧ W.cell? ⟨w.heap.size + 1, 4, none⟩ = some (.slice a1.c.ea a1.c.e.length a1.c.ec) ∧ W.cell? ⟨w.heap.size + 1, 5, none⟩ = some (.slice a1.sa a1.s.length a1.sc) ∧ W.cell? ⟨w.heap.size + 1, 6, none⟩ = some (.slice a1.ha a1.h.length a1.hc) ∧ W.cell? ⟨bx1, 0, none⟩ = some (.int .i64 y1.c.t.k) ∧ W.cell? ⟨bx1, 1, none⟩ = some (.int .i64 y1.c.t.v) ∧ W.cell? ⟨bx1, 2, none⟩ = some (.slice y1.c.t.da y1.c.t.ds.length y1.c.t.dc) ∧ W.cell? ⟨bx1, 3, none⟩ = some (.slice y1.c.t.a y1.c.t.ks.length y1.c.t.cap) ∧ W.cell? ⟨bx1, 4, none⟩ = some (.slice y1.c.ea y1.c.e.length y1.c.ec) ∧ W.cell? ⟨bx1, 5, none⟩ = some (.slice y1.sa y1.s.length y1.sc) ∧ W.cell? ⟨bx1, 6, none⟩ = some (.slice y1.ha y1.h.length y1.hc))
    (first | exact ⟨p0, p1, p2, p3, p4, p5, p6, q0, q1, q2, q3, q4, q5, q6⟩ | exact ⟨(k2 _ _ lA).trans p0, (k2 _ _ lA).trans p1, (k2 _ _ lA).trans p2, (k2 _ _ lA).trans p3, (k2 _ _ lA).trans p4, (k2 _ _ lA).trans p5, (k2 _ _ lA).trans p6, (k2 _ _ lX).trans q0, (k2 _ _ lX).trans q1, (k2 _ _ lX).trans q2, (k2 _ _ lX).trans q3, (k2 _ _ lX).trans q4, (k2 _ _ lX).trans q5, (k2 _ _ lX).trans q6⟩ | exact ⟨(k3 _ _ lA).trans p0, (k3 _ _ lA).trans p1, (k3 _ _ lA).trans p2, (k3 _ _ lA).trans p3, (k3 _ _ lA).trans p4, (k3 _ _ lA).trans p5, (k3 _ _ lA).trans p6, (k3 _ _ lX).trans q0, (k3 _ _ lX).trans q1, (k3 _ _ lX).trans q2, (k3 _ _ lX).trans q3, (k3 _ _ lX).trans q4, (k3 _ _ lX).trans q5, (k3 _ _ lX).trans q6⟩)
    (first
      | (go_at_call 10; refine (laws_toNeed a1 _ (by exact ndGr _ _ _ B1.out.2 (Gw.refl wF0).drew) HZ.out.2).mono ?_; rintro e wE1 ⟨z, rfl, hz, nz, g8⟩; have HZZ := Lib.hid hz; clear hz; have k2 : ∀ b o, b < wF0.heap.size → wE1.cell? ⟨b, o, none⟩ = wF0.cell? ⟨b, o, none⟩ := fun b o h => (bcell g8).1 b o h)
      | (go_at_call 13; refine (laws_eqNeed y1 z _ (by exact ndGr _ _ _ N1.out.1 ((Gw.refl wF0).drew.trans g8)) nz.1 (by rw [HY1.out, HZZ.out])).mono ?_; rintro e wF1 ⟨rfl, g9⟩; have k3 : ∀ b o, b < wF0.heap.size → wF1.cell? ⟨b, o, none⟩ = wF0.cell? ⟨b, o, none⟩ := fun b o h => ((bcell g9).1 b o (Nat.lt_of_lt_of_le h g8.size)).trans (k2 b o h)))
  have gA : Gw wF0 wF1 := ((Gw.refl wF0).drew.trans g8).trans g9
  replace B0 := Lib.hid (B0.out.grow bkGr gA)
  replace B1 := Lib.hid (B1.out.grow ndGr gA)
  replace gW := gW.trans gA
  replace X0 := Lib.hid (X0.out.grow bkGr gA)
  replace N0 := Lib.hid (gNew.grow bkGr N0.out gA)
  replace X1 := Lib.hid (X1.out.grow ndGr gA)
  replace N1 := Lib.hid (gNew.grow ndGr N1.out gA)
  clear k2 k3 g8 g9 gA lA lX HZZ nz p0 p1 p2 p3 p4 p5 p6 q0 q1 q2 q3 q4 q5 q6
  go_wp2_with fail
  go_ret
  exact ⟨rfl, gW⟩

set_option maxRecDepth 100000 in
theorem lifted (os : Os) (started : os.Started) (H : Type) (enc : TypeId × Value → H) :
    ReturnsInHanded {} Tryd.checked os 5 .any (fun w args => (Rows.fnExactIsFinishedSpec.pre enc Tryd.prog Tryd.f5 Rows.fnExactIsFinishedRow.domain false w args ∧ laidMetH Tryd.prog Rows.fnExactIsFinishedRow.laid w) ∧ sizedMet enc Tryd.prog Tryd.f5 (OpenSpec.ofChange Rows.fnExactIsFinishedSpec) false w args)
      (Rows.fnExactIsFinishedSpec.post enc Tryd.prog Tryd.f5 false true false false) := by
  refine returnsInHanded_of_change_and (C := Tryd.checked) (X := fun w _ => laidMetH Tryd.prog Rows.fnExactIsFinishedRow.laid w) (fun _ _ _ hh h => h.of_heap hh) own started (by kernel_rfl) Tryd.func5
    (ChangeSpec.witness_shaped (enc := enc) (C := Tryd.checked) (os := os) (X := fun w _ => laidMetH Tryd.prog Rows.fnExactIsFinishedRow.laid w) false (World.laidAll Tryd.prog os Rows.fnExactIsFinishedRow.laid) #[.agg #[.slice none 0 0], .agg #[.int .i64 0, .int .i64 0, .slice none 0 0, .slice none 0 0, .slice none 0 0, .slice none 0 0, .slice none 0 0]] 8 (World.laidAll_os _ _ _)
      (World.shaped_of_ZipB (by kernel_rfl) (by kernel_rfl)) (by kernel_rfl) (by kernel_rfl) (by kernel_rfl)
      (by rw [MakeChecks.laidMetH_plain _ _ _ (by kernel_rfl)]; exact laidMet_laidAll _ (by kernel_rfl) (by kernel_rfl))) ?_
  intro W base args ds gs before hval0 hW _ _ hT _
  have hval : ∀ (j : Nat) t v, Tryd.f5.params[j]? = some t → args[j]? = some v → Value.okWide Tryd.prog W .any base t v := hval0
  have hW' := hW
  obtain ⟨p, q, hA0, hV0, rfl, hfz, hnd⟩ := hW
  have hA : DataW.TrodAll enc Tryd.prog W 0 (fun _ => true) true Tryd.f5.params.toList args.toList ds p := hA0
  rw [Tryd.params5] at hA hval
  obtain ⟨v0, vs0, d0, ds0, p0, q0, hargs, rfl, rfl, h0, r0⟩ := trodAll_cons hA
  obtain ⟨v1, vs1, d1, ds1, p1, q1, rfl, rfl, rfl, h1, r1⟩ := trodAll_cons r0
  obtain ⟨rfl, rfl, rfl⟩ := trodAll_nil r1
  obtain rfl : args = #[v0, v1] := by cases args; simp_all
  obtain ⟨a0, rfl, w0⟩ := open_book (hval 0 24 v0 rfl rfl) h0
  obtain ⟨a1, rfl, w1⟩ := open_nd (hval 1 33 v1 rfl rfl) h1
  obtain ⟨g0, rfl⟩ : ∃ g0, gs = [g0] := by
    obtain ⟨g, t, cs, fuel, d, p', rfl, _⟩ := trodVars_one hV0
    exact ⟨d, rfl⟩
  refine (walk W a0 w0 a1 w1 hT).mono fun e W' ⟨he, hg⟩ => ?_
  subst he
  exact ⟨_, rfl, post_law laidOut (by kernel_rfl) (by kernel_rfl) rfl Tryd.underlying4 hW' hg rfl⟩

theorem holds : Rows.FnExactIsFinishedSaid :=
  OpenClaim.holds_of_wide 5 Tryd.f5 rfl rfl rfl rfl rfl rfl rfl ⟨rfl, rfl, rfl, rfl, rfl⟩ rfl rfl rfl rfl rfl (by kernel_rfl) Tryd.func5 (by kernel_rfl)
    (of_decide_eq_true (by kernel_rfl)) (by unfold Func.isWrapper; first | (rw [if_pos (by decide +kernel)]; kernel_rfl) | (rw [if_neg (by decide +kernel)]; exact ⟨rfl, rfl⟩))
    (fun os started H enc _ => lifted os started H enc)

/-- The given statement: the tied card. -/
theorem proved : Rows.FnExactIsFinishedCardSaid :=
  Claim7.holds_tied_plain_at .later [] [.data] true Rows.fnExactIsFinishedCard.stood.harness Rows.fnExactIsFinishedCard.stood.looks holds (fun _ h => by cases h) (by kernel_rfl) (fun _ h => by cases h) fnExactIsFinished_row_tie rfl ⟨rfl, rfl⟩ (by kernel_rfl) rfl
    (fun f fn hf hfn => by
      obtain rfl : f = 5 := Option.some.inj ((show Tryd.prog.funcNamed Rows.fnExactIsFinishedRow.func = some 5 by kernel_rfl).symm.trans hf) |>.symm
      obtain rfl : fn = Tryd.f5 := (Option.some.inj (Tryd.func5.symm.trans hfn)).symm
      exact ⟨by kernel_rfl, fun j t ht => by
        rw [Tryd.params5] at ht
        have hm : t ∈ [24, 33] := by simpa using Array.mem_of_getElem? ht
        have hall : ([24, 33].all fun u => !Tryd.prog.wantsStandIn u) = true := by kernel_rfl
        exact (show Tryd.prog.wantsStandIn t = false by simpa using List.all_eq_true.1 hall t hm)⟩)
    (by kernel_rfl)
#print axioms proved
end Go.Proofs.YtkpbiifikkbaeaaDoor.fnExactIsFinished
