/-
  Contracts of the program's ValidNeed and IsFinished. Condition: book and state lie in memory, and the table of forms reads as the program's text lays it.
-/
import Derived.Test.YtkpbiifikkbaeaaDoorNdP
import Derived.Test.YtkpbiifikkbaeaaDoorNdI
import Derived.Test.YtkpbiifikkbaeaaDoorMs
import Derived.Test.YtkpbiifikkbaeaaDoorSeqO
namespace Go.Proofs.YtkpbiifikkbaeaaDoor.Con
open Go.RowKit
set_option linter.unusedVariables false
set_option linter.unusedSimpArgs false
attribute [local go_sem] Oper.semAt_some

set_option maxRecDepth 100000 in
set_option maxHeartbeats 2000000 in
theorem impl_vn_no0 (u : LB) (m : LNd) (w : World) (hu : bOk w u) (hm : ndOk w m) (hT : KTbl w) (h0 : ebC u.cs = false) : Calls Tryd.prog 11 #[u.val, m.val] w (BoolGw false w) := by
  have hel : u.ks.length ≤ 9223372036854775807 := hu.len
  have hls : m.s.length ≤ 9223372036854775807 := Nat.le_trans hm.2.1.1 hm.2.1.2.1
  have hlh : m.h.length ≤ 9223372036854775807 := Nat.le_trans hm.2.2.1 hm.2.2.2.1
  have g1 : Gw w (w.alloc (.cells #[.slice u.a u.ks.length u.cap] 39)) := (Gw.refl w).alloc _
  have g2 : Gw w ((w.alloc (.cells #[.slice u.a u.ks.length u.cap] 39)).alloc (.cells #[.int .i64 m.c.t.k, .int .i64 m.c.t.v, .slice m.c.t.da m.c.t.ds.length m.c.t.dc, .slice m.c.t.a m.c.t.ks.length m.c.t.cap, .slice m.c.ea m.c.e.length m.c.ec, .slice m.sa m.s.length m.sc, .slice m.ha m.h.length m.hc] 48)) := g1.alloc _
  have g3 : Gw w (((w.alloc (.cells #[.slice u.a u.ks.length u.cap] 39)).alloc (.cells #[.int .i64 m.c.t.k, .int .i64 m.c.t.v, .slice m.c.t.da m.c.t.ds.length m.c.t.dc, .slice m.c.t.a m.c.t.ks.length m.c.t.cap, .slice m.c.ea m.c.e.length m.c.ec, .slice m.sa m.s.length m.sc, .slice m.ha m.h.length m.hc] 48)).alloc (.cells #[.bool false] 4)) := g2.alloc _
  have PB := Lib.hid ((BoxB.new w u 39).grow (((Gw.refl (w.alloc (.cells #[.slice u.a u.ks.length u.cap] 39))).alloc (.cells #[.int .i64 m.c.t.k, .int .i64 m.c.t.v, .slice m.c.t.da m.c.t.ds.length m.c.t.dc, .slice m.c.t.a m.c.t.ks.length m.c.t.cap, .slice m.c.ea m.c.e.length m.c.ec, .slice m.sa m.s.length m.sc, .slice m.ha m.h.length m.hc] 48)).alloc (.cells #[.bool false] 4)))
  have AX0 : ndAt ((w.alloc (.cells #[.slice u.a u.ks.length u.cap] 39)).alloc (.cells #[.int .i64 m.c.t.k, .int .i64 m.c.t.v, .slice m.c.t.da m.c.t.ds.length m.c.t.dc, .slice m.c.t.a m.c.t.ks.length m.c.t.cap, .slice m.c.ea m.c.e.length m.c.ec, .slice m.sa m.s.length m.sc, .slice m.ha m.h.length m.hc] 48)) (w.alloc (.cells #[.slice u.a u.ks.length u.cap] 39)).heap.size 0 m := gAt.new ndGr (w := (w.alloc (.cells #[.slice u.a u.ks.length u.cap] 39))) (cs := #[.int .i64 m.c.t.k, .int .i64 m.c.t.v, .slice m.c.t.da m.c.t.ds.length m.c.t.dc, .slice m.c.t.a m.c.t.ks.length m.c.t.cap, .slice m.c.ea m.c.e.length m.c.ec, .slice m.sa m.s.length m.sc, .slice m.ha m.h.length m.hc]) (e := 48) rfl (ndGr _ _ _ hm g1)
  have AX := Lib.hid (AX0.grow ndGr ((Gw.refl ((w.alloc (.cells #[.slice u.a u.ks.length u.cap] 39)).alloc (.cells #[.int .i64 m.c.t.k, .int .i64 m.c.t.v, .slice m.c.t.da m.c.t.ds.length m.c.t.dc, .slice m.c.t.a m.c.t.ks.length m.c.t.cap, .slice m.c.ea m.c.e.length m.c.ec, .slice m.sa m.s.length m.sc, .slice m.ha m.h.length m.hc] 48))).alloc (.cells #[.bool false] 4)))
  have BRR := Lib.hid (Boxed.new ((w.alloc (.cells #[.slice u.a u.ks.length u.cap] 39)).alloc (.cells #[.int .i64 m.c.t.k, .int .i64 m.c.t.v, .slice m.c.t.da m.c.t.ds.length m.c.t.dc, .slice m.c.t.a m.c.t.ks.length m.c.t.cap, .slice m.c.ea m.c.e.length m.c.ec, .slice m.sa m.s.length m.sc, .slice m.ha m.h.length m.hc] 48)) 4 (.bool false))
  have HU := Lib.hid (hu.grow g3)
  have TB := Lib.hid (hT.grow g3)
  have G := Lib.hid g3
  have HBR := Lib.hid (show w.heap.size ≤ ((w.alloc (.cells #[.slice u.a u.ks.length u.cap] 39)).alloc (.cells #[.int .i64 m.c.t.k, .int .i64 m.c.t.v, .slice m.c.t.da m.c.t.ds.length m.c.t.dc, .slice m.c.t.a m.c.t.ks.length m.c.t.cap, .slice m.c.ea m.c.e.length m.c.ec, .slice m.sa m.s.length m.sc, .slice m.ha m.h.length m.hc] 48)).heap.size from g2.size)
  clear hu hm hT g1 g2 g3 AX0
  go_enter Tryd.func11, Tryd.ntmps11
  go_upto_region 1 with (fail)
  obtain ⟨w3, hw3⟩ : ∃ x, x = (((w.alloc (.cells #[.slice u.a u.ks.length u.cap] 39)).alloc (.cells #[.int .i64 m.c.t.k, .int .i64 m.c.t.v, .slice m.c.t.da m.c.t.ds.length m.c.t.dc, .slice m.c.t.a m.c.t.ks.length m.c.t.cap, .slice m.c.ea m.c.e.length m.c.ec, .slice m.sa m.s.length m.sc, .slice m.ha m.h.length m.hc] 48)).alloc (.cells #[.bool false] 4)) := ⟨_, rfl⟩
  obtain ⟨BB, hBB⟩ : ∃ x, x = w.heap.size := ⟨_, rfl⟩
  obtain ⟨BN, hBN⟩ : ∃ x, x = (w.alloc (.cells #[.slice u.a u.ks.length u.cap] 39)).heap.size := ⟨_, rfl⟩
  obtain ⟨BR, hBR⟩ : ∃ x, x = ((w.alloc (.cells #[.slice u.a u.ks.length u.cap] 39)).alloc (.cells #[.int .i64 m.c.t.k, .int .i64 m.c.t.v, .slice m.c.t.da m.c.t.ds.length m.c.t.dc, .slice m.c.t.a m.c.t.ks.length m.c.t.cap, .slice m.c.ea m.c.e.length m.c.ec, .slice m.sa m.s.length m.sc, .slice m.ha m.h.length m.hc] 48)).heap.size := ⟨_, rfl⟩
  rw [← hw3] at PB AX BRR HU TB G
  rw [← hBN] at AX
  rw [← hBR] at BRR HBR
  rw [← hw3]
  simp only [World.size_alloc] at hBN hBR
  have HSZ := Lib.hid (show w.heap.size + 2 = BR ∧ BR < w3.heap.size by rw [hw3, hBR]; simp)
  rw [← hBB] at PB hBN hBR
  rw [← hBB]
  first | rw [← hBR] | skip
  first | rw [← hBN] | skip
  clear hw3 hBB hBN hBR
  have k0 := PB.out.c
  go_upto_region 2 with (fail)
  have gD : Gw w3 (w3.alloc (.cells #[.int .i64 u.ks.length] 3)) := (Gw.refl w3).alloc _
  have BDD := Lib.hid (Boxed.new w3 3 (.int .i64 u.ks.length))
  clear k0
  generalize w3.alloc (.cells #[.int .i64 u.ks.length] 3) = w4 at *
  obtain ⟨BD, hBD⟩ : ∃ x, x = w3.heap.size := ⟨_, rfl⟩
  rw [← hBD] at BDD ⊢
  replace HSZ := Lib.hid (show w.heap.size + 2 = BR ∧ BR < BD by have := HSZ.out; omega)
  replace PB := Lib.hid (PB.out.grow gD)
  replace AX := Lib.hid (AX.out.grow ndGr gD)
  replace BRR := Lib.hid (show Boxed w4 BR 4 (.bool false) from (gD.block _ BRR.out.lt).trans BRR.out)
  replace HU := Lib.hid (HU.out.grow gD)
  replace TB := Lib.hid (TB.out.grow gD)
  replace G := Lib.hid (G.out.trans gD)
  clear gD hBD
  have KE0 := impl_eb u w4 HU.out TB.out
  rw [h0] at KE0
  have KE := Lib.hid KE0
  clear KE0 h0
  have k0 := (PB.out.grow (Gw.refl w4)).c
  go_wp2_with fail
  refine KE.out.mono ?_
  rintro e w5 ⟨rfl, g5⟩
  have G5 := Lib.hid g5
  clear k0 KE g5
  have b1 : Boxed w5 BR 4 (.bool false) := ((G5.out).block _ BRR.out.lt).trans BRR.out
  have cR := b1.cell
  have fR := b1.frozen
  go_wp2_with fail
  have cF := (b1.set (.bool false)).cell
  refine bodyPost_ret (v := .bool false) (by simp [results, Tryd.results11, go_sem, cF]) rfl ⟨rfl, Below.setCell (G.out.trans G5.out) (p := ⟨BR, 0, none⟩) (show w.heap.size ≤ BR by have := HSZ.out; omega) _⟩

set_option maxRecDepth 100000 in
set_option maxHeartbeats 2000000 in
theorem impl_vn_no1 (u : LB) (m : LNd) (w : World) (hu : bOk w u) (hm : ndOk w m) (hT : KTbl w) (h0 : ebC u.cs = true) (h1 : ¬ m.h.length ≤ 2000) : Calls Tryd.prog 11 #[u.val, m.val] w (BoolGw false w) := by
  have hel : u.ks.length ≤ 9223372036854775807 := hu.len
  have hls : m.s.length ≤ 9223372036854775807 := Nat.le_trans hm.2.1.1 hm.2.1.2.1
  have hlh : m.h.length ≤ 9223372036854775807 := Nat.le_trans hm.2.2.1 hm.2.2.2.1
  have g1 : Gw w (w.alloc (.cells #[.slice u.a u.ks.length u.cap] 39)) := (Gw.refl w).alloc _
  have g2 : Gw w ((w.alloc (.cells #[.slice u.a u.ks.length u.cap] 39)).alloc (.cells #[.int .i64 m.c.t.k, .int .i64 m.c.t.v, .slice m.c.t.da m.c.t.ds.length m.c.t.dc, .slice m.c.t.a m.c.t.ks.length m.c.t.cap, .slice m.c.ea m.c.e.length m.c.ec, .slice m.sa m.s.length m.sc, .slice m.ha m.h.length m.hc] 48)) := g1.alloc _
  have g3 : Gw w (((w.alloc (.cells #[.slice u.a u.ks.length u.cap] 39)).alloc (.cells #[.int .i64 m.c.t.k, .int .i64 m.c.t.v, .slice m.c.t.da m.c.t.ds.length m.c.t.dc, .slice m.c.t.a m.c.t.ks.length m.c.t.cap, .slice m.c.ea m.c.e.length m.c.ec, .slice m.sa m.s.length m.sc, .slice m.ha m.h.length m.hc] 48)).alloc (.cells #[.bool false] 4)) := g2.alloc _
  have PB := Lib.hid ((BoxB.new w u 39).grow (((Gw.refl (w.alloc (.cells #[.slice u.a u.ks.length u.cap] 39))).alloc (.cells #[.int .i64 m.c.t.k, .int .i64 m.c.t.v, .slice m.c.t.da m.c.t.ds.length m.c.t.dc, .slice m.c.t.a m.c.t.ks.length m.c.t.cap, .slice m.c.ea m.c.e.length m.c.ec, .slice m.sa m.s.length m.sc, .slice m.ha m.h.length m.hc] 48)).alloc (.cells #[.bool false] 4)))
  have AX0 : ndAt ((w.alloc (.cells #[.slice u.a u.ks.length u.cap] 39)).alloc (.cells #[.int .i64 m.c.t.k, .int .i64 m.c.t.v, .slice m.c.t.da m.c.t.ds.length m.c.t.dc, .slice m.c.t.a m.c.t.ks.length m.c.t.cap, .slice m.c.ea m.c.e.length m.c.ec, .slice m.sa m.s.length m.sc, .slice m.ha m.h.length m.hc] 48)) (w.alloc (.cells #[.slice u.a u.ks.length u.cap] 39)).heap.size 0 m := gAt.new ndGr (w := (w.alloc (.cells #[.slice u.a u.ks.length u.cap] 39))) (cs := #[.int .i64 m.c.t.k, .int .i64 m.c.t.v, .slice m.c.t.da m.c.t.ds.length m.c.t.dc, .slice m.c.t.a m.c.t.ks.length m.c.t.cap, .slice m.c.ea m.c.e.length m.c.ec, .slice m.sa m.s.length m.sc, .slice m.ha m.h.length m.hc]) (e := 48) rfl (ndGr _ _ _ hm g1)
  have AX := Lib.hid (AX0.grow ndGr ((Gw.refl ((w.alloc (.cells #[.slice u.a u.ks.length u.cap] 39)).alloc (.cells #[.int .i64 m.c.t.k, .int .i64 m.c.t.v, .slice m.c.t.da m.c.t.ds.length m.c.t.dc, .slice m.c.t.a m.c.t.ks.length m.c.t.cap, .slice m.c.ea m.c.e.length m.c.ec, .slice m.sa m.s.length m.sc, .slice m.ha m.h.length m.hc] 48))).alloc (.cells #[.bool false] 4)))
  have BRR := Lib.hid (Boxed.new ((w.alloc (.cells #[.slice u.a u.ks.length u.cap] 39)).alloc (.cells #[.int .i64 m.c.t.k, .int .i64 m.c.t.v, .slice m.c.t.da m.c.t.ds.length m.c.t.dc, .slice m.c.t.a m.c.t.ks.length m.c.t.cap, .slice m.c.ea m.c.e.length m.c.ec, .slice m.sa m.s.length m.sc, .slice m.ha m.h.length m.hc] 48)) 4 (.bool false))
  have HU := Lib.hid (hu.grow g3)
  have TB := Lib.hid (hT.grow g3)
  have G := Lib.hid g3
  have HBR := Lib.hid (show w.heap.size ≤ ((w.alloc (.cells #[.slice u.a u.ks.length u.cap] 39)).alloc (.cells #[.int .i64 m.c.t.k, .int .i64 m.c.t.v, .slice m.c.t.da m.c.t.ds.length m.c.t.dc, .slice m.c.t.a m.c.t.ks.length m.c.t.cap, .slice m.c.ea m.c.e.length m.c.ec, .slice m.sa m.s.length m.sc, .slice m.ha m.h.length m.hc] 48)).heap.size from g2.size)
  clear hu hm hT g1 g2 g3 AX0
  go_enter Tryd.func11, Tryd.ntmps11
  go_upto_region 1 with (fail)
  obtain ⟨w3, hw3⟩ : ∃ x, x = (((w.alloc (.cells #[.slice u.a u.ks.length u.cap] 39)).alloc (.cells #[.int .i64 m.c.t.k, .int .i64 m.c.t.v, .slice m.c.t.da m.c.t.ds.length m.c.t.dc, .slice m.c.t.a m.c.t.ks.length m.c.t.cap, .slice m.c.ea m.c.e.length m.c.ec, .slice m.sa m.s.length m.sc, .slice m.ha m.h.length m.hc] 48)).alloc (.cells #[.bool false] 4)) := ⟨_, rfl⟩
  obtain ⟨BB, hBB⟩ : ∃ x, x = w.heap.size := ⟨_, rfl⟩
  obtain ⟨BN, hBN⟩ : ∃ x, x = (w.alloc (.cells #[.slice u.a u.ks.length u.cap] 39)).heap.size := ⟨_, rfl⟩
  obtain ⟨BR, hBR⟩ : ∃ x, x = ((w.alloc (.cells #[.slice u.a u.ks.length u.cap] 39)).alloc (.cells #[.int .i64 m.c.t.k, .int .i64 m.c.t.v, .slice m.c.t.da m.c.t.ds.length m.c.t.dc, .slice m.c.t.a m.c.t.ks.length m.c.t.cap, .slice m.c.ea m.c.e.length m.c.ec, .slice m.sa m.s.length m.sc, .slice m.ha m.h.length m.hc] 48)).heap.size := ⟨_, rfl⟩
  rw [← hw3] at PB AX BRR HU TB G
  rw [← hBN] at AX
  rw [← hBR] at BRR HBR
  rw [← hw3]
  simp only [World.size_alloc] at hBN hBR
  have HSZ := Lib.hid (show w.heap.size + 2 = BR ∧ BR < w3.heap.size by rw [hw3, hBR]; simp)
  rw [← hBB] at PB hBN hBR
  rw [← hBB]
  first | rw [← hBR] | skip
  first | rw [← hBN] | skip
  clear hw3 hBB hBN hBR
  have k0 := PB.out.c
  go_upto_region 2 with (fail)
  have gD : Gw w3 (w3.alloc (.cells #[.int .i64 u.ks.length] 3)) := (Gw.refl w3).alloc _
  have BDD := Lib.hid (Boxed.new w3 3 (.int .i64 u.ks.length))
  clear k0
  generalize w3.alloc (.cells #[.int .i64 u.ks.length] 3) = w4 at *
  obtain ⟨BD, hBD⟩ : ∃ x, x = w3.heap.size := ⟨_, rfl⟩
  rw [← hBD] at BDD ⊢
  replace HSZ := Lib.hid (show w.heap.size + 2 = BR ∧ BR < BD by have := HSZ.out; omega)
  replace PB := Lib.hid (PB.out.grow gD)
  replace AX := Lib.hid (AX.out.grow ndGr gD)
  replace BRR := Lib.hid (show Boxed w4 BR 4 (.bool false) from (gD.block _ BRR.out.lt).trans BRR.out)
  replace HU := Lib.hid (HU.out.grow gD)
  replace TB := Lib.hid (TB.out.grow gD)
  replace G := Lib.hid (G.out.trans gD)
  clear gD hBD
  have KE0 := impl_eb u w4 HU.out TB.out
  rw [h0] at KE0
  have KE := Lib.hid KE0
  clear KE0 h0
  have k0 := (PB.out.grow (Gw.refl w4)).c
  go_wp2_with fail
  refine KE.out.mono ?_
  rintro e w5 ⟨rfl, g5⟩
  have G5 := Lib.hid g5
  clear k0 KE g5
  have q6 := (AX.out.grow ndGr G5.out).1 6 _ rfl
  have z1 : decide ((2000 : Int) < (m.h.length : Int)) = true := decide_eq_true (by omega)
  have b1 : Boxed w5 BR 4 (.bool false) := ((G5.out).block _ BRR.out.lt).trans BRR.out
  have cR := b1.cell
  have fR := b1.frozen
  go_wp2_with fail
  have cF := (b1.set (.bool false)).cell
  refine bodyPost_ret (v := .bool false) (by simp [results, Tryd.results11, go_sem, cF]) rfl ⟨rfl, Below.setCell (G.out.trans G5.out) (p := ⟨BR, 0, none⟩) (show w.heap.size ≤ BR by have := HSZ.out; omega) _⟩

set_option maxRecDepth 100000 in
set_option maxHeartbeats 2000000 in
theorem impl_vn_no2 (u : LB) (m : LNd) (w : World) (hu : bOk w u) (hm : ndOk w m) (hT : KTbl w) (h0 : ebC u.cs = true) (h1 : m.h.length ≤ 2000) (h2 : ¬ m.s.length ≤ 400) : Calls Tryd.prog 11 #[u.val, m.val] w (BoolGw false w) := by
  have hel : u.ks.length ≤ 9223372036854775807 := hu.len
  have hls : m.s.length ≤ 9223372036854775807 := Nat.le_trans hm.2.1.1 hm.2.1.2.1
  have hlh : m.h.length ≤ 9223372036854775807 := Nat.le_trans hm.2.2.1 hm.2.2.2.1
  have g1 : Gw w (w.alloc (.cells #[.slice u.a u.ks.length u.cap] 39)) := (Gw.refl w).alloc _
  have g2 : Gw w ((w.alloc (.cells #[.slice u.a u.ks.length u.cap] 39)).alloc (.cells #[.int .i64 m.c.t.k, .int .i64 m.c.t.v, .slice m.c.t.da m.c.t.ds.length m.c.t.dc, .slice m.c.t.a m.c.t.ks.length m.c.t.cap, .slice m.c.ea m.c.e.length m.c.ec, .slice m.sa m.s.length m.sc, .slice m.ha m.h.length m.hc] 48)) := g1.alloc _
  have g3 : Gw w (((w.alloc (.cells #[.slice u.a u.ks.length u.cap] 39)).alloc (.cells #[.int .i64 m.c.t.k, .int .i64 m.c.t.v, .slice m.c.t.da m.c.t.ds.length m.c.t.dc, .slice m.c.t.a m.c.t.ks.length m.c.t.cap, .slice m.c.ea m.c.e.length m.c.ec, .slice m.sa m.s.length m.sc, .slice m.ha m.h.length m.hc] 48)).alloc (.cells #[.bool false] 4)) := g2.alloc _
  have PB := Lib.hid ((BoxB.new w u 39).grow (((Gw.refl (w.alloc (.cells #[.slice u.a u.ks.length u.cap] 39))).alloc (.cells #[.int .i64 m.c.t.k, .int .i64 m.c.t.v, .slice m.c.t.da m.c.t.ds.length m.c.t.dc, .slice m.c.t.a m.c.t.ks.length m.c.t.cap, .slice m.c.ea m.c.e.length m.c.ec, .slice m.sa m.s.length m.sc, .slice m.ha m.h.length m.hc] 48)).alloc (.cells #[.bool false] 4)))
  have AX0 : ndAt ((w.alloc (.cells #[.slice u.a u.ks.length u.cap] 39)).alloc (.cells #[.int .i64 m.c.t.k, .int .i64 m.c.t.v, .slice m.c.t.da m.c.t.ds.length m.c.t.dc, .slice m.c.t.a m.c.t.ks.length m.c.t.cap, .slice m.c.ea m.c.e.length m.c.ec, .slice m.sa m.s.length m.sc, .slice m.ha m.h.length m.hc] 48)) (w.alloc (.cells #[.slice u.a u.ks.length u.cap] 39)).heap.size 0 m := gAt.new ndGr (w := (w.alloc (.cells #[.slice u.a u.ks.length u.cap] 39))) (cs := #[.int .i64 m.c.t.k, .int .i64 m.c.t.v, .slice m.c.t.da m.c.t.ds.length m.c.t.dc, .slice m.c.t.a m.c.t.ks.length m.c.t.cap, .slice m.c.ea m.c.e.length m.c.ec, .slice m.sa m.s.length m.sc, .slice m.ha m.h.length m.hc]) (e := 48) rfl (ndGr _ _ _ hm g1)
  have AX := Lib.hid (AX0.grow ndGr ((Gw.refl ((w.alloc (.cells #[.slice u.a u.ks.length u.cap] 39)).alloc (.cells #[.int .i64 m.c.t.k, .int .i64 m.c.t.v, .slice m.c.t.da m.c.t.ds.length m.c.t.dc, .slice m.c.t.a m.c.t.ks.length m.c.t.cap, .slice m.c.ea m.c.e.length m.c.ec, .slice m.sa m.s.length m.sc, .slice m.ha m.h.length m.hc] 48))).alloc (.cells #[.bool false] 4)))
  have BRR := Lib.hid (Boxed.new ((w.alloc (.cells #[.slice u.a u.ks.length u.cap] 39)).alloc (.cells #[.int .i64 m.c.t.k, .int .i64 m.c.t.v, .slice m.c.t.da m.c.t.ds.length m.c.t.dc, .slice m.c.t.a m.c.t.ks.length m.c.t.cap, .slice m.c.ea m.c.e.length m.c.ec, .slice m.sa m.s.length m.sc, .slice m.ha m.h.length m.hc] 48)) 4 (.bool false))
  have HU := Lib.hid (hu.grow g3)
  have TB := Lib.hid (hT.grow g3)
  have G := Lib.hid g3
  have HBR := Lib.hid (show w.heap.size ≤ ((w.alloc (.cells #[.slice u.a u.ks.length u.cap] 39)).alloc (.cells #[.int .i64 m.c.t.k, .int .i64 m.c.t.v, .slice m.c.t.da m.c.t.ds.length m.c.t.dc, .slice m.c.t.a m.c.t.ks.length m.c.t.cap, .slice m.c.ea m.c.e.length m.c.ec, .slice m.sa m.s.length m.sc, .slice m.ha m.h.length m.hc] 48)).heap.size from g2.size)
  clear hu hm hT g1 g2 g3 AX0
  go_enter Tryd.func11, Tryd.ntmps11
  go_upto_region 1 with (fail)
  obtain ⟨w3, hw3⟩ : ∃ x, x = (((w.alloc (.cells #[.slice u.a u.ks.length u.cap] 39)).alloc (.cells #[.int .i64 m.c.t.k, .int .i64 m.c.t.v, .slice m.c.t.da m.c.t.ds.length m.c.t.dc, .slice m.c.t.a m.c.t.ks.length m.c.t.cap, .slice m.c.ea m.c.e.length m.c.ec, .slice m.sa m.s.length m.sc, .slice m.ha m.h.length m.hc] 48)).alloc (.cells #[.bool false] 4)) := ⟨_, rfl⟩
  obtain ⟨BB, hBB⟩ : ∃ x, x = w.heap.size := ⟨_, rfl⟩
  obtain ⟨BN, hBN⟩ : ∃ x, x = (w.alloc (.cells #[.slice u.a u.ks.length u.cap] 39)).heap.size := ⟨_, rfl⟩
  obtain ⟨BR, hBR⟩ : ∃ x, x = ((w.alloc (.cells #[.slice u.a u.ks.length u.cap] 39)).alloc (.cells #[.int .i64 m.c.t.k, .int .i64 m.c.t.v, .slice m.c.t.da m.c.t.ds.length m.c.t.dc, .slice m.c.t.a m.c.t.ks.length m.c.t.cap, .slice m.c.ea m.c.e.length m.c.ec, .slice m.sa m.s.length m.sc, .slice m.ha m.h.length m.hc] 48)).heap.size := ⟨_, rfl⟩
  rw [← hw3] at PB AX BRR HU TB G
  rw [← hBN] at AX
  rw [← hBR] at BRR HBR
  rw [← hw3]
  simp only [World.size_alloc] at hBN hBR
  have HSZ := Lib.hid (show w.heap.size + 2 = BR ∧ BR < w3.heap.size by rw [hw3, hBR]; simp)
  rw [← hBB] at PB hBN hBR
  rw [← hBB]
  first | rw [← hBR] | skip
  first | rw [← hBN] | skip
  clear hw3 hBB hBN hBR
  have k0 := PB.out.c
  go_upto_region 2 with (fail)
  have gD : Gw w3 (w3.alloc (.cells #[.int .i64 u.ks.length] 3)) := (Gw.refl w3).alloc _
  have BDD := Lib.hid (Boxed.new w3 3 (.int .i64 u.ks.length))
  clear k0
  generalize w3.alloc (.cells #[.int .i64 u.ks.length] 3) = w4 at *
  obtain ⟨BD, hBD⟩ : ∃ x, x = w3.heap.size := ⟨_, rfl⟩
  rw [← hBD] at BDD ⊢
  replace HSZ := Lib.hid (show w.heap.size + 2 = BR ∧ BR < BD by have := HSZ.out; omega)
  replace PB := Lib.hid (PB.out.grow gD)
  replace AX := Lib.hid (AX.out.grow ndGr gD)
  replace BRR := Lib.hid (show Boxed w4 BR 4 (.bool false) from (gD.block _ BRR.out.lt).trans BRR.out)
  replace HU := Lib.hid (HU.out.grow gD)
  replace TB := Lib.hid (TB.out.grow gD)
  replace G := Lib.hid (G.out.trans gD)
  clear gD hBD
  have KE0 := impl_eb u w4 HU.out TB.out
  rw [h0] at KE0
  have KE := Lib.hid KE0
  clear KE0 h0
  have k0 := (PB.out.grow (Gw.refl w4)).c
  go_wp2_with fail
  refine KE.out.mono ?_
  rintro e w5 ⟨rfl, g5⟩
  have G5 := Lib.hid g5
  clear k0 KE g5
  have q6 := (AX.out.grow ndGr G5.out).1 6 _ rfl
  have z1 : decide ((2000 : Int) < (m.h.length : Int)) = false := decide_eq_false (by omega)
  have z2 : decide ((400 : Int) < (m.s.length : Int)) = true := decide_eq_true (by omega)
  have q5 := (AX.out.grow ndGr G5.out).1 5 _ rfl
  have b1 : Boxed w5 BR 4 (.bool false) := ((G5.out).block _ BRR.out.lt).trans BRR.out
  have cR := b1.cell
  have fR := b1.frozen
  go_wp2_with fail
  have cF := (b1.set (.bool false)).cell
  refine bodyPost_ret (v := .bool false) (by simp [results, Tryd.results11, go_sem, cF]) rfl ⟨rfl, Below.setCell (G.out.trans G5.out) (p := ⟨BR, 0, none⟩) (show w.heap.size ≤ BR by have := HSZ.out; omega) _⟩

set_option maxRecDepth 100000 in
set_option maxHeartbeats 2000000 in
theorem impl_vn_no3 (u : LB) (m : LNd) (w : World) (hu : bOk w u) (hm : ndOk w m) (hT : KTbl w) (h0 : ebC u.cs = true) (h1 : m.h.length ≤ 2000) (h2 : m.s.length ≤ 400) (h3 : clG u.ks.length (fun _ => true) m.c.pu = false) : Calls Tryd.prog 11 #[u.val, m.val] w (BoolGw false w) := by
  have hel : u.ks.length ≤ 9223372036854775807 := hu.len
  have hls : m.s.length ≤ 9223372036854775807 := Nat.le_trans hm.2.1.1 hm.2.1.2.1
  have hlh : m.h.length ≤ 9223372036854775807 := Nat.le_trans hm.2.2.1 hm.2.2.2.1
  have g1 : Gw w (w.alloc (.cells #[.slice u.a u.ks.length u.cap] 39)) := (Gw.refl w).alloc _
  have g2 : Gw w ((w.alloc (.cells #[.slice u.a u.ks.length u.cap] 39)).alloc (.cells #[.int .i64 m.c.t.k, .int .i64 m.c.t.v, .slice m.c.t.da m.c.t.ds.length m.c.t.dc, .slice m.c.t.a m.c.t.ks.length m.c.t.cap, .slice m.c.ea m.c.e.length m.c.ec, .slice m.sa m.s.length m.sc, .slice m.ha m.h.length m.hc] 48)) := g1.alloc _
  have g3 : Gw w (((w.alloc (.cells #[.slice u.a u.ks.length u.cap] 39)).alloc (.cells #[.int .i64 m.c.t.k, .int .i64 m.c.t.v, .slice m.c.t.da m.c.t.ds.length m.c.t.dc, .slice m.c.t.a m.c.t.ks.length m.c.t.cap, .slice m.c.ea m.c.e.length m.c.ec, .slice m.sa m.s.length m.sc, .slice m.ha m.h.length m.hc] 48)).alloc (.cells #[.bool false] 4)) := g2.alloc _
  have PB := Lib.hid ((BoxB.new w u 39).grow (((Gw.refl (w.alloc (.cells #[.slice u.a u.ks.length u.cap] 39))).alloc (.cells #[.int .i64 m.c.t.k, .int .i64 m.c.t.v, .slice m.c.t.da m.c.t.ds.length m.c.t.dc, .slice m.c.t.a m.c.t.ks.length m.c.t.cap, .slice m.c.ea m.c.e.length m.c.ec, .slice m.sa m.s.length m.sc, .slice m.ha m.h.length m.hc] 48)).alloc (.cells #[.bool false] 4)))
  have AX0 : ndAt ((w.alloc (.cells #[.slice u.a u.ks.length u.cap] 39)).alloc (.cells #[.int .i64 m.c.t.k, .int .i64 m.c.t.v, .slice m.c.t.da m.c.t.ds.length m.c.t.dc, .slice m.c.t.a m.c.t.ks.length m.c.t.cap, .slice m.c.ea m.c.e.length m.c.ec, .slice m.sa m.s.length m.sc, .slice m.ha m.h.length m.hc] 48)) (w.alloc (.cells #[.slice u.a u.ks.length u.cap] 39)).heap.size 0 m := gAt.new ndGr (w := (w.alloc (.cells #[.slice u.a u.ks.length u.cap] 39))) (cs := #[.int .i64 m.c.t.k, .int .i64 m.c.t.v, .slice m.c.t.da m.c.t.ds.length m.c.t.dc, .slice m.c.t.a m.c.t.ks.length m.c.t.cap, .slice m.c.ea m.c.e.length m.c.ec, .slice m.sa m.s.length m.sc, .slice m.ha m.h.length m.hc]) (e := 48) rfl (ndGr _ _ _ hm g1)
  have AX := Lib.hid (AX0.grow ndGr ((Gw.refl ((w.alloc (.cells #[.slice u.a u.ks.length u.cap] 39)).alloc (.cells #[.int .i64 m.c.t.k, .int .i64 m.c.t.v, .slice m.c.t.da m.c.t.ds.length m.c.t.dc, .slice m.c.t.a m.c.t.ks.length m.c.t.cap, .slice m.c.ea m.c.e.length m.c.ec, .slice m.sa m.s.length m.sc, .slice m.ha m.h.length m.hc] 48))).alloc (.cells #[.bool false] 4)))
  have BRR := Lib.hid (Boxed.new ((w.alloc (.cells #[.slice u.a u.ks.length u.cap] 39)).alloc (.cells #[.int .i64 m.c.t.k, .int .i64 m.c.t.v, .slice m.c.t.da m.c.t.ds.length m.c.t.dc, .slice m.c.t.a m.c.t.ks.length m.c.t.cap, .slice m.c.ea m.c.e.length m.c.ec, .slice m.sa m.s.length m.sc, .slice m.ha m.h.length m.hc] 48)) 4 (.bool false))
  have HU := Lib.hid (hu.grow g3)
  have TB := Lib.hid (hT.grow g3)
  have G := Lib.hid g3
  have HBR := Lib.hid (show w.heap.size ≤ ((w.alloc (.cells #[.slice u.a u.ks.length u.cap] 39)).alloc (.cells #[.int .i64 m.c.t.k, .int .i64 m.c.t.v, .slice m.c.t.da m.c.t.ds.length m.c.t.dc, .slice m.c.t.a m.c.t.ks.length m.c.t.cap, .slice m.c.ea m.c.e.length m.c.ec, .slice m.sa m.s.length m.sc, .slice m.ha m.h.length m.hc] 48)).heap.size from g2.size)
  clear hu hm hT g1 g2 g3 AX0
  go_enter Tryd.func11, Tryd.ntmps11
  go_upto_region 1 with (fail)
  obtain ⟨w3, hw3⟩ : ∃ x, x = (((w.alloc (.cells #[.slice u.a u.ks.length u.cap] 39)).alloc (.cells #[.int .i64 m.c.t.k, .int .i64 m.c.t.v, .slice m.c.t.da m.c.t.ds.length m.c.t.dc, .slice m.c.t.a m.c.t.ks.length m.c.t.cap, .slice m.c.ea m.c.e.length m.c.ec, .slice m.sa m.s.length m.sc, .slice m.ha m.h.length m.hc] 48)).alloc (.cells #[.bool false] 4)) := ⟨_, rfl⟩
  obtain ⟨BB, hBB⟩ : ∃ x, x = w.heap.size := ⟨_, rfl⟩
  obtain ⟨BN, hBN⟩ : ∃ x, x = (w.alloc (.cells #[.slice u.a u.ks.length u.cap] 39)).heap.size := ⟨_, rfl⟩
  obtain ⟨BR, hBR⟩ : ∃ x, x = ((w.alloc (.cells #[.slice u.a u.ks.length u.cap] 39)).alloc (.cells #[.int .i64 m.c.t.k, .int .i64 m.c.t.v, .slice m.c.t.da m.c.t.ds.length m.c.t.dc, .slice m.c.t.a m.c.t.ks.length m.c.t.cap, .slice m.c.ea m.c.e.length m.c.ec, .slice m.sa m.s.length m.sc, .slice m.ha m.h.length m.hc] 48)).heap.size := ⟨_, rfl⟩
  rw [← hw3] at PB AX BRR HU TB G
  rw [← hBN] at AX
  rw [← hBR] at BRR HBR
  rw [← hw3]
  simp only [World.size_alloc] at hBN hBR
  have HSZ := Lib.hid (show w.heap.size + 2 = BR ∧ BR < w3.heap.size by rw [hw3, hBR]; simp)
  rw [← hBB] at PB hBN hBR
  rw [← hBB]
  first | rw [← hBR] | skip
  first | rw [← hBN] | skip
  clear hw3 hBB hBN hBR
  have k0 := PB.out.c
  go_upto_region 2 with (fail)
  have gD : Gw w3 (w3.alloc (.cells #[.int .i64 u.ks.length] 3)) := (Gw.refl w3).alloc _
  have BDD := Lib.hid (Boxed.new w3 3 (.int .i64 u.ks.length))
  clear k0
  generalize w3.alloc (.cells #[.int .i64 u.ks.length] 3) = w4 at *
  obtain ⟨BD, hBD⟩ : ∃ x, x = w3.heap.size := ⟨_, rfl⟩
  rw [← hBD] at BDD ⊢
  replace HSZ := Lib.hid (show w.heap.size + 2 = BR ∧ BR < BD by have := HSZ.out; omega)
  replace PB := Lib.hid (PB.out.grow gD)
  replace AX := Lib.hid (AX.out.grow ndGr gD)
  replace BRR := Lib.hid (show Boxed w4 BR 4 (.bool false) from (gD.block _ BRR.out.lt).trans BRR.out)
  replace HU := Lib.hid (HU.out.grow gD)
  replace TB := Lib.hid (TB.out.grow gD)
  replace G := Lib.hid (G.out.trans gD)
  clear gD hBD
  have KE0 := impl_eb u w4 HU.out TB.out
  rw [h0] at KE0
  have KE := Lib.hid KE0
  clear KE0 h0
  have k0 := (PB.out.grow (Gw.refl w4)).c
  go_wp2_with fail
  refine KE.out.mono ?_
  rintro e w5 ⟨rfl, g5⟩
  have G5 := Lib.hid g5
  clear k0 KE g5
  have q6 := (AX.out.grow ndGr G5.out).1 6 _ rfl
  have z1 : decide ((2000 : Int) < (m.h.length : Int)) = false := decide_eq_false (by omega)
  have z2 : decide ((400 : Int) < (m.s.length : Int)) = false := decide_eq_false (by omega)
  have q5 := (AX.out.grow ndGr G5.out).1 5 _ rfl
  have KC0 := impl_clo m.c u.ks.length w5 BN 0 (AX.out.grow ndGr G5.out).nc (TB.out.grow G5.out)
  rw [h3] at KC0
  have KC := Lib.hid KC0
  clear KC0 h3
  have kd := (show Boxed w5 BD 3 (.int .i64 u.ks.length) from ((G5.out).block _ BDD.out.lt).trans BDD.out).cell
  go_wp2_with fail
  refine KC.out.mono ?_
  rintro e w6 ⟨rfl, g6⟩
  have G6 := Lib.hid (G5.out.trans g6)
  clear KC kd q5 q6 z1 z2 g6
  have b1 : Boxed w6 BR 4 (.bool false) := ((G6.out).block _ BRR.out.lt).trans BRR.out
  have cR := b1.cell
  have fR := b1.frozen
  go_wp2_with fail
  have cF := (b1.set (.bool false)).cell
  refine bodyPost_ret (v := .bool false) (by simp [results, Tryd.results11, go_sem, cF]) rfl ⟨rfl, Below.setCell (G.out.trans G6.out) (p := ⟨BR, 0, none⟩) (show w.heap.size ≤ BR by have := HSZ.out; omega) _⟩

set_option maxRecDepth 100000 in
set_option maxHeartbeats 2000000 in
theorem impl_vn_no4 (u : LB) (m : LNd) (w : World) (hu : bOk w u) (hm : ndOk w m) (hT : KTbl w) (h0 : ebC u.cs = true) (h1 : m.h.length ≤ 2000) (h2 : m.s.length ≤ 400) (h3 : clG u.ks.length (fun _ => true) m.c.pu = true) (h4 : (m.s.map LFr.pu).all (frG u.ks.length (fun _ => true)) = false) : Calls Tryd.prog 11 #[u.val, m.val] w (BoolGw false w) := by
  have hel : u.ks.length ≤ 9223372036854775807 := hu.len
  have hls : m.s.length ≤ 9223372036854775807 := Nat.le_trans hm.2.1.1 hm.2.1.2.1
  have hlh : m.h.length ≤ 9223372036854775807 := Nat.le_trans hm.2.2.1 hm.2.2.2.1
  have g1 : Gw w (w.alloc (.cells #[.slice u.a u.ks.length u.cap] 39)) := (Gw.refl w).alloc _
  have g2 : Gw w ((w.alloc (.cells #[.slice u.a u.ks.length u.cap] 39)).alloc (.cells #[.int .i64 m.c.t.k, .int .i64 m.c.t.v, .slice m.c.t.da m.c.t.ds.length m.c.t.dc, .slice m.c.t.a m.c.t.ks.length m.c.t.cap, .slice m.c.ea m.c.e.length m.c.ec, .slice m.sa m.s.length m.sc, .slice m.ha m.h.length m.hc] 48)) := g1.alloc _
  have g3 : Gw w (((w.alloc (.cells #[.slice u.a u.ks.length u.cap] 39)).alloc (.cells #[.int .i64 m.c.t.k, .int .i64 m.c.t.v, .slice m.c.t.da m.c.t.ds.length m.c.t.dc, .slice m.c.t.a m.c.t.ks.length m.c.t.cap, .slice m.c.ea m.c.e.length m.c.ec, .slice m.sa m.s.length m.sc, .slice m.ha m.h.length m.hc] 48)).alloc (.cells #[.bool false] 4)) := g2.alloc _
  have PB := Lib.hid ((BoxB.new w u 39).grow (((Gw.refl (w.alloc (.cells #[.slice u.a u.ks.length u.cap] 39))).alloc (.cells #[.int .i64 m.c.t.k, .int .i64 m.c.t.v, .slice m.c.t.da m.c.t.ds.length m.c.t.dc, .slice m.c.t.a m.c.t.ks.length m.c.t.cap, .slice m.c.ea m.c.e.length m.c.ec, .slice m.sa m.s.length m.sc, .slice m.ha m.h.length m.hc] 48)).alloc (.cells #[.bool false] 4)))
  have AX0 : ndAt ((w.alloc (.cells #[.slice u.a u.ks.length u.cap] 39)).alloc (.cells #[.int .i64 m.c.t.k, .int .i64 m.c.t.v, .slice m.c.t.da m.c.t.ds.length m.c.t.dc, .slice m.c.t.a m.c.t.ks.length m.c.t.cap, .slice m.c.ea m.c.e.length m.c.ec, .slice m.sa m.s.length m.sc, .slice m.ha m.h.length m.hc] 48)) (w.alloc (.cells #[.slice u.a u.ks.length u.cap] 39)).heap.size 0 m := gAt.new ndGr (w := (w.alloc (.cells #[.slice u.a u.ks.length u.cap] 39))) (cs := #[.int .i64 m.c.t.k, .int .i64 m.c.t.v, .slice m.c.t.da m.c.t.ds.length m.c.t.dc, .slice m.c.t.a m.c.t.ks.length m.c.t.cap, .slice m.c.ea m.c.e.length m.c.ec, .slice m.sa m.s.length m.sc, .slice m.ha m.h.length m.hc]) (e := 48) rfl (ndGr _ _ _ hm g1)
  have AX := Lib.hid (AX0.grow ndGr ((Gw.refl ((w.alloc (.cells #[.slice u.a u.ks.length u.cap] 39)).alloc (.cells #[.int .i64 m.c.t.k, .int .i64 m.c.t.v, .slice m.c.t.da m.c.t.ds.length m.c.t.dc, .slice m.c.t.a m.c.t.ks.length m.c.t.cap, .slice m.c.ea m.c.e.length m.c.ec, .slice m.sa m.s.length m.sc, .slice m.ha m.h.length m.hc] 48))).alloc (.cells #[.bool false] 4)))
  have BRR := Lib.hid (Boxed.new ((w.alloc (.cells #[.slice u.a u.ks.length u.cap] 39)).alloc (.cells #[.int .i64 m.c.t.k, .int .i64 m.c.t.v, .slice m.c.t.da m.c.t.ds.length m.c.t.dc, .slice m.c.t.a m.c.t.ks.length m.c.t.cap, .slice m.c.ea m.c.e.length m.c.ec, .slice m.sa m.s.length m.sc, .slice m.ha m.h.length m.hc] 48)) 4 (.bool false))
  have HU := Lib.hid (hu.grow g3)
  have TB := Lib.hid (hT.grow g3)
  have G := Lib.hid g3
  have HBR := Lib.hid (show w.heap.size ≤ ((w.alloc (.cells #[.slice u.a u.ks.length u.cap] 39)).alloc (.cells #[.int .i64 m.c.t.k, .int .i64 m.c.t.v, .slice m.c.t.da m.c.t.ds.length m.c.t.dc, .slice m.c.t.a m.c.t.ks.length m.c.t.cap, .slice m.c.ea m.c.e.length m.c.ec, .slice m.sa m.s.length m.sc, .slice m.ha m.h.length m.hc] 48)).heap.size from g2.size)
  clear hu hm hT g1 g2 g3 AX0
  go_enter Tryd.func11, Tryd.ntmps11
  go_upto_region 1 with (fail)
  obtain ⟨w3, hw3⟩ : ∃ x, x = (((w.alloc (.cells #[.slice u.a u.ks.length u.cap] 39)).alloc (.cells #[.int .i64 m.c.t.k, .int .i64 m.c.t.v, .slice m.c.t.da m.c.t.ds.length m.c.t.dc, .slice m.c.t.a m.c.t.ks.length m.c.t.cap, .slice m.c.ea m.c.e.length m.c.ec, .slice m.sa m.s.length m.sc, .slice m.ha m.h.length m.hc] 48)).alloc (.cells #[.bool false] 4)) := ⟨_, rfl⟩
  obtain ⟨BB, hBB⟩ : ∃ x, x = w.heap.size := ⟨_, rfl⟩
  obtain ⟨BN, hBN⟩ : ∃ x, x = (w.alloc (.cells #[.slice u.a u.ks.length u.cap] 39)).heap.size := ⟨_, rfl⟩
  obtain ⟨BR, hBR⟩ : ∃ x, x = ((w.alloc (.cells #[.slice u.a u.ks.length u.cap] 39)).alloc (.cells #[.int .i64 m.c.t.k, .int .i64 m.c.t.v, .slice m.c.t.da m.c.t.ds.length m.c.t.dc, .slice m.c.t.a m.c.t.ks.length m.c.t.cap, .slice m.c.ea m.c.e.length m.c.ec, .slice m.sa m.s.length m.sc, .slice m.ha m.h.length m.hc] 48)).heap.size := ⟨_, rfl⟩
  rw [← hw3] at PB AX BRR HU TB G
  rw [← hBN] at AX
  rw [← hBR] at BRR HBR
  rw [← hw3]
  simp only [World.size_alloc] at hBN hBR
  have HSZ := Lib.hid (show w.heap.size + 2 = BR ∧ BR < w3.heap.size by rw [hw3, hBR]; simp)
  rw [← hBB] at PB hBN hBR
  rw [← hBB]
  first | rw [← hBR] | skip
  first | rw [← hBN] | skip
  clear hw3 hBB hBN hBR
  have k0 := PB.out.c
  go_upto_region 2 with (fail)
  have gD : Gw w3 (w3.alloc (.cells #[.int .i64 u.ks.length] 3)) := (Gw.refl w3).alloc _
  have BDD := Lib.hid (Boxed.new w3 3 (.int .i64 u.ks.length))
  clear k0
  generalize w3.alloc (.cells #[.int .i64 u.ks.length] 3) = w4 at *
  obtain ⟨BD, hBD⟩ : ∃ x, x = w3.heap.size := ⟨_, rfl⟩
  rw [← hBD] at BDD ⊢
  replace HSZ := Lib.hid (show w.heap.size + 2 = BR ∧ BR < BD by have := HSZ.out; omega)
  replace PB := Lib.hid (PB.out.grow gD)
  replace AX := Lib.hid (AX.out.grow ndGr gD)
  replace BRR := Lib.hid (show Boxed w4 BR 4 (.bool false) from (gD.block _ BRR.out.lt).trans BRR.out)
  replace HU := Lib.hid (HU.out.grow gD)
  replace TB := Lib.hid (TB.out.grow gD)
  replace G := Lib.hid (G.out.trans gD)
  clear gD hBD
  have KE0 := impl_eb u w4 HU.out TB.out
  rw [h0] at KE0
  have KE := Lib.hid KE0
  clear KE0 h0
  have k0 := (PB.out.grow (Gw.refl w4)).c
  go_wp2_with fail
  refine KE.out.mono ?_
  rintro e w5 ⟨rfl, g5⟩
  have G5 := Lib.hid g5
  clear k0 KE g5
  have q6 := (AX.out.grow ndGr G5.out).1 6 _ rfl
  have z1 : decide ((2000 : Int) < (m.h.length : Int)) = false := decide_eq_false (by omega)
  have z2 : decide ((400 : Int) < (m.s.length : Int)) = false := decide_eq_false (by omega)
  have q5 := (AX.out.grow ndGr G5.out).1 5 _ rfl
  have KC0 := impl_clo m.c u.ks.length w5 BN 0 (AX.out.grow ndGr G5.out).nc (TB.out.grow G5.out)
  rw [h3] at KC0
  have KC := Lib.hid KC0
  clear KC0 h3
  have kd := (show Boxed w5 BD 3 (.int .i64 u.ks.length) from ((G5.out).block _ BDD.out.lt).trans BDD.out).cell
  go_wp2_with fail
  refine KC.out.mono ?_
  rintro e w6 ⟨rfl, g6⟩
  have G6 := Lib.hid (G5.out.trans g6)
  clear KC kd q5 q6 z1 z2 g6
  have KC0 := impl_anyFr m.s u.ks.length BD w6 m.sa m.sc (AX.out.grow ndGr G6.out).2.2.1 (show Boxed w6 BD 3 (.int .i64 u.ks.length) from ((G6.out).block _ BDD.out.lt).trans BDD.out).cell (TB.out.grow G6.out)
  rw [h4] at KC0
  have KC := Lib.hid KC0
  clear KC0 h4
  have q5 := (AX.out.grow ndGr G6.out).1 5 _ rfl
  go_wp2_with fail
  refine KC.out.mono ?_
  rintro e w7 ⟨rfl, g7⟩
  have G7 := Lib.hid (G6.out.trans g7)
  clear KC q5 g7
  have b1 : Boxed w7 BR 4 (.bool false) := ((G7.out).block _ BRR.out.lt).trans BRR.out
  have cR := b1.cell
  have fR := b1.frozen
  go_wp2_with fail
  have cF := (b1.set (.bool false)).cell
  refine bodyPost_ret (v := .bool false) (by simp [results, Tryd.results11, go_sem, cF]) rfl ⟨rfl, Below.setCell (G.out.trans G7.out) (p := ⟨BR, 0, none⟩) (show w.heap.size ≤ BR by have := HSZ.out; omega) _⟩

set_option maxRecDepth 100000 in
set_option maxHeartbeats 2000000 in
theorem impl_vn_no5 (u : LB) (m : LNd) (w : World) (hu : bOk w u) (hm : ndOk w m) (hT : KTbl w) (h0 : ebC u.cs = true) (h1 : m.h.length ≤ 2000) (h2 : m.s.length ≤ 400) (h3 : clG u.ks.length (fun _ => true) m.c.pu = true) (h4 : (m.s.map LFr.pu).all (frG u.ks.length (fun _ => true)) = true) (h5 : (m.h.map LTh.pu).all (thG u.ks.length (fun _ => true)) = false) : Calls Tryd.prog 11 #[u.val, m.val] w (BoolGw false w) := by
  have hel : u.ks.length ≤ 9223372036854775807 := hu.len
  have hls : m.s.length ≤ 9223372036854775807 := Nat.le_trans hm.2.1.1 hm.2.1.2.1
  have hlh : m.h.length ≤ 9223372036854775807 := Nat.le_trans hm.2.2.1 hm.2.2.2.1
  have g1 : Gw w (w.alloc (.cells #[.slice u.a u.ks.length u.cap] 39)) := (Gw.refl w).alloc _
  have g2 : Gw w ((w.alloc (.cells #[.slice u.a u.ks.length u.cap] 39)).alloc (.cells #[.int .i64 m.c.t.k, .int .i64 m.c.t.v, .slice m.c.t.da m.c.t.ds.length m.c.t.dc, .slice m.c.t.a m.c.t.ks.length m.c.t.cap, .slice m.c.ea m.c.e.length m.c.ec, .slice m.sa m.s.length m.sc, .slice m.ha m.h.length m.hc] 48)) := g1.alloc _
  have g3 : Gw w (((w.alloc (.cells #[.slice u.a u.ks.length u.cap] 39)).alloc (.cells #[.int .i64 m.c.t.k, .int .i64 m.c.t.v, .slice m.c.t.da m.c.t.ds.length m.c.t.dc, .slice m.c.t.a m.c.t.ks.length m.c.t.cap, .slice m.c.ea m.c.e.length m.c.ec, .slice m.sa m.s.length m.sc, .slice m.ha m.h.length m.hc] 48)).alloc (.cells #[.bool false] 4)) := g2.alloc _
  have PB := Lib.hid ((BoxB.new w u 39).grow (((Gw.refl (w.alloc (.cells #[.slice u.a u.ks.length u.cap] 39))).alloc (.cells #[.int .i64 m.c.t.k, .int .i64 m.c.t.v, .slice m.c.t.da m.c.t.ds.length m.c.t.dc, .slice m.c.t.a m.c.t.ks.length m.c.t.cap, .slice m.c.ea m.c.e.length m.c.ec, .slice m.sa m.s.length m.sc, .slice m.ha m.h.length m.hc] 48)).alloc (.cells #[.bool false] 4)))
  have AX0 : ndAt ((w.alloc (.cells #[.slice u.a u.ks.length u.cap] 39)).alloc (.cells #[.int .i64 m.c.t.k, .int .i64 m.c.t.v, .slice m.c.t.da m.c.t.ds.length m.c.t.dc, .slice m.c.t.a m.c.t.ks.length m.c.t.cap, .slice m.c.ea m.c.e.length m.c.ec, .slice m.sa m.s.length m.sc, .slice m.ha m.h.length m.hc] 48)) (w.alloc (.cells #[.slice u.a u.ks.length u.cap] 39)).heap.size 0 m := gAt.new ndGr (w := (w.alloc (.cells #[.slice u.a u.ks.length u.cap] 39))) (cs := #[.int .i64 m.c.t.k, .int .i64 m.c.t.v, .slice m.c.t.da m.c.t.ds.length m.c.t.dc, .slice m.c.t.a m.c.t.ks.length m.c.t.cap, .slice m.c.ea m.c.e.length m.c.ec, .slice m.sa m.s.length m.sc, .slice m.ha m.h.length m.hc]) (e := 48) rfl (ndGr _ _ _ hm g1)
  have AX := Lib.hid (AX0.grow ndGr ((Gw.refl ((w.alloc (.cells #[.slice u.a u.ks.length u.cap] 39)).alloc (.cells #[.int .i64 m.c.t.k, .int .i64 m.c.t.v, .slice m.c.t.da m.c.t.ds.length m.c.t.dc, .slice m.c.t.a m.c.t.ks.length m.c.t.cap, .slice m.c.ea m.c.e.length m.c.ec, .slice m.sa m.s.length m.sc, .slice m.ha m.h.length m.hc] 48))).alloc (.cells #[.bool false] 4)))
  have BRR := Lib.hid (Boxed.new ((w.alloc (.cells #[.slice u.a u.ks.length u.cap] 39)).alloc (.cells #[.int .i64 m.c.t.k, .int .i64 m.c.t.v, .slice m.c.t.da m.c.t.ds.length m.c.t.dc, .slice m.c.t.a m.c.t.ks.length m.c.t.cap, .slice m.c.ea m.c.e.length m.c.ec, .slice m.sa m.s.length m.sc, .slice m.ha m.h.length m.hc] 48)) 4 (.bool false))
  have HU := Lib.hid (hu.grow g3)
  have TB := Lib.hid (hT.grow g3)
  have G := Lib.hid g3
  have HBR := Lib.hid (show w.heap.size ≤ ((w.alloc (.cells #[.slice u.a u.ks.length u.cap] 39)).alloc (.cells #[.int .i64 m.c.t.k, .int .i64 m.c.t.v, .slice m.c.t.da m.c.t.ds.length m.c.t.dc, .slice m.c.t.a m.c.t.ks.length m.c.t.cap, .slice m.c.ea m.c.e.length m.c.ec, .slice m.sa m.s.length m.sc, .slice m.ha m.h.length m.hc] 48)).heap.size from g2.size)
  clear hu hm hT g1 g2 g3 AX0
  go_enter Tryd.func11, Tryd.ntmps11
  go_upto_region 1 with (fail)
  obtain ⟨w3, hw3⟩ : ∃ x, x = (((w.alloc (.cells #[.slice u.a u.ks.length u.cap] 39)).alloc (.cells #[.int .i64 m.c.t.k, .int .i64 m.c.t.v, .slice m.c.t.da m.c.t.ds.length m.c.t.dc, .slice m.c.t.a m.c.t.ks.length m.c.t.cap, .slice m.c.ea m.c.e.length m.c.ec, .slice m.sa m.s.length m.sc, .slice m.ha m.h.length m.hc] 48)).alloc (.cells #[.bool false] 4)) := ⟨_, rfl⟩
  obtain ⟨BB, hBB⟩ : ∃ x, x = w.heap.size := ⟨_, rfl⟩
  obtain ⟨BN, hBN⟩ : ∃ x, x = (w.alloc (.cells #[.slice u.a u.ks.length u.cap] 39)).heap.size := ⟨_, rfl⟩
  obtain ⟨BR, hBR⟩ : ∃ x, x = ((w.alloc (.cells #[.slice u.a u.ks.length u.cap] 39)).alloc (.cells #[.int .i64 m.c.t.k, .int .i64 m.c.t.v, .slice m.c.t.da m.c.t.ds.length m.c.t.dc, .slice m.c.t.a m.c.t.ks.length m.c.t.cap, .slice m.c.ea m.c.e.length m.c.ec, .slice m.sa m.s.length m.sc, .slice m.ha m.h.length m.hc] 48)).heap.size := ⟨_, rfl⟩
  rw [← hw3] at PB AX BRR HU TB G
  rw [← hBN] at AX
  rw [← hBR] at BRR HBR
  rw [← hw3]
  simp only [World.size_alloc] at hBN hBR
  have HSZ := Lib.hid (show w.heap.size + 2 = BR ∧ BR < w3.heap.size by rw [hw3, hBR]; simp)
  rw [← hBB] at PB hBN hBR
  rw [← hBB]
  first | rw [← hBR] | skip
  first | rw [← hBN] | skip
  clear hw3 hBB hBN hBR
  have k0 := PB.out.c
  go_upto_region 2 with (fail)
  have gD : Gw w3 (w3.alloc (.cells #[.int .i64 u.ks.length] 3)) := (Gw.refl w3).alloc _
  have BDD := Lib.hid (Boxed.new w3 3 (.int .i64 u.ks.length))
  clear k0
  generalize w3.alloc (.cells #[.int .i64 u.ks.length] 3) = w4 at *
  obtain ⟨BD, hBD⟩ : ∃ x, x = w3.heap.size := ⟨_, rfl⟩
  rw [← hBD] at BDD ⊢
  replace HSZ := Lib.hid (show w.heap.size + 2 = BR ∧ BR < BD by have := HSZ.out; omega)
  replace PB := Lib.hid (PB.out.grow gD)
  replace AX := Lib.hid (AX.out.grow ndGr gD)
  replace BRR := Lib.hid (show Boxed w4 BR 4 (.bool false) from (gD.block _ BRR.out.lt).trans BRR.out)
  replace HU := Lib.hid (HU.out.grow gD)
  replace TB := Lib.hid (TB.out.grow gD)
  replace G := Lib.hid (G.out.trans gD)
  clear gD hBD
  have KE0 := impl_eb u w4 HU.out TB.out
  rw [h0] at KE0
  have KE := Lib.hid KE0
  clear KE0 h0
  have k0 := (PB.out.grow (Gw.refl w4)).c
  go_wp2_with fail
  refine KE.out.mono ?_
  rintro e w5 ⟨rfl, g5⟩
  have G5 := Lib.hid g5
  clear k0 KE g5
  have q6 := (AX.out.grow ndGr G5.out).1 6 _ rfl
  have z1 : decide ((2000 : Int) < (m.h.length : Int)) = false := decide_eq_false (by omega)
  have z2 : decide ((400 : Int) < (m.s.length : Int)) = false := decide_eq_false (by omega)
  have q5 := (AX.out.grow ndGr G5.out).1 5 _ rfl
  have KC0 := impl_clo m.c u.ks.length w5 BN 0 (AX.out.grow ndGr G5.out).nc (TB.out.grow G5.out)
  rw [h3] at KC0
  have KC := Lib.hid KC0
  clear KC0 h3
  have kd := (show Boxed w5 BD 3 (.int .i64 u.ks.length) from ((G5.out).block _ BDD.out.lt).trans BDD.out).cell
  go_wp2_with fail
  refine KC.out.mono ?_
  rintro e w6 ⟨rfl, g6⟩
  have G6 := Lib.hid (G5.out.trans g6)
  clear KC kd q5 q6 z1 z2 g6
  have KC0 := impl_anyFr m.s u.ks.length BD w6 m.sa m.sc (AX.out.grow ndGr G6.out).2.2.1 (show Boxed w6 BD 3 (.int .i64 u.ks.length) from ((G6.out).block _ BDD.out.lt).trans BDD.out).cell (TB.out.grow G6.out)
  rw [h4] at KC0
  have KC := Lib.hid KC0
  clear KC0 h4
  have q5 := (AX.out.grow ndGr G6.out).1 5 _ rfl
  go_wp2_with fail
  refine KC.out.mono ?_
  rintro e w7 ⟨rfl, g7⟩
  have G7 := Lib.hid (G6.out.trans g7)
  clear KC q5 g7
  have KC0 := impl_anyTh m.h u.ks.length BD w7 m.ha m.hc (AX.out.grow ndGr G7.out).2.2.2 (show Boxed w7 BD 3 (.int .i64 u.ks.length) from ((G7.out).block _ BDD.out.lt).trans BDD.out).cell (TB.out.grow G7.out)
  rw [h5] at KC0
  have KC := Lib.hid KC0
  clear KC0 h5
  have q6 := (AX.out.grow ndGr G7.out).1 6 _ rfl
  go_wp2_with fail
  refine KC.out.mono ?_
  rintro e w8 ⟨rfl, g8⟩
  have G8 := Lib.hid (G7.out.trans g8)
  clear KC q6 g8
  have b1 : Boxed w8 BR 4 (.bool false) := ((G8.out).block _ BRR.out.lt).trans BRR.out
  have cR := b1.cell
  have fR := b1.frozen
  go_wp2_with fail
  have cF := (b1.set (.bool false)).cell
  refine bodyPost_ret (v := .bool false) (by simp [results, Tryd.results11, go_sem, cF]) rfl ⟨rfl, Below.setCell (G.out.trans G8.out) (p := ⟨BR, 0, none⟩) (show w.heap.size ≤ BR by have := HSZ.out; omega) _⟩

set_option maxRecDepth 100000 in
set_option maxHeartbeats 4000000 in
theorem impl_vn_yes (u : LB) (m : LNd) (w : World) (hu : bOk w u) (hm : ndOk w m) (hT : KTbl w) (h0 : ebC u.cs = true) (h1 : m.h.length ≤ 2000) (h2 : m.s.length ≤ 400) (h3 : clG u.ks.length (fun _ => true) m.c.pu = true) (h4 : (m.s.map LFr.pu).all (frG u.ks.length (fun _ => true)) = true) (h5 : (m.h.map LTh.pu).all (thG u.ks.length (fun _ => true)) = true) : Calls Tryd.prog 11 #[u.val, m.val] w (BoolGw ((plcs m).all (inH m.h.length)) w) := by
  have hel : u.ks.length ≤ 9223372036854775807 := hu.len
  have hls : m.s.length ≤ 9223372036854775807 := Nat.le_trans hm.2.1.1 hm.2.1.2.1
  have hlh : m.h.length ≤ 9223372036854775807 := Nat.le_trans hm.2.2.1 hm.2.2.2.1
  have g1 : Gw w (w.alloc (.cells #[.slice u.a u.ks.length u.cap] 39)) := (Gw.refl w).alloc _
  have g2 : Gw w ((w.alloc (.cells #[.slice u.a u.ks.length u.cap] 39)).alloc (.cells #[.int .i64 m.c.t.k, .int .i64 m.c.t.v, .slice m.c.t.da m.c.t.ds.length m.c.t.dc, .slice m.c.t.a m.c.t.ks.length m.c.t.cap, .slice m.c.ea m.c.e.length m.c.ec, .slice m.sa m.s.length m.sc, .slice m.ha m.h.length m.hc] 48)) := g1.alloc _
  have g3 : Gw w (((w.alloc (.cells #[.slice u.a u.ks.length u.cap] 39)).alloc (.cells #[.int .i64 m.c.t.k, .int .i64 m.c.t.v, .slice m.c.t.da m.c.t.ds.length m.c.t.dc, .slice m.c.t.a m.c.t.ks.length m.c.t.cap, .slice m.c.ea m.c.e.length m.c.ec, .slice m.sa m.s.length m.sc, .slice m.ha m.h.length m.hc] 48)).alloc (.cells #[.bool false] 4)) := g2.alloc _
  have PB := Lib.hid ((BoxB.new w u 39).grow (((Gw.refl (w.alloc (.cells #[.slice u.a u.ks.length u.cap] 39))).alloc (.cells #[.int .i64 m.c.t.k, .int .i64 m.c.t.v, .slice m.c.t.da m.c.t.ds.length m.c.t.dc, .slice m.c.t.a m.c.t.ks.length m.c.t.cap, .slice m.c.ea m.c.e.length m.c.ec, .slice m.sa m.s.length m.sc, .slice m.ha m.h.length m.hc] 48)).alloc (.cells #[.bool false] 4)))
  have AX0 : ndAt ((w.alloc (.cells #[.slice u.a u.ks.length u.cap] 39)).alloc (.cells #[.int .i64 m.c.t.k, .int .i64 m.c.t.v, .slice m.c.t.da m.c.t.ds.length m.c.t.dc, .slice m.c.t.a m.c.t.ks.length m.c.t.cap, .slice m.c.ea m.c.e.length m.c.ec, .slice m.sa m.s.length m.sc, .slice m.ha m.h.length m.hc] 48)) (w.alloc (.cells #[.slice u.a u.ks.length u.cap] 39)).heap.size 0 m := gAt.new ndGr (w := (w.alloc (.cells #[.slice u.a u.ks.length u.cap] 39))) (cs := #[.int .i64 m.c.t.k, .int .i64 m.c.t.v, .slice m.c.t.da m.c.t.ds.length m.c.t.dc, .slice m.c.t.a m.c.t.ks.length m.c.t.cap, .slice m.c.ea m.c.e.length m.c.ec, .slice m.sa m.s.length m.sc, .slice m.ha m.h.length m.hc]) (e := 48) rfl (ndGr _ _ _ hm g1)
  have AX := Lib.hid (AX0.grow ndGr ((Gw.refl ((w.alloc (.cells #[.slice u.a u.ks.length u.cap] 39)).alloc (.cells #[.int .i64 m.c.t.k, .int .i64 m.c.t.v, .slice m.c.t.da m.c.t.ds.length m.c.t.dc, .slice m.c.t.a m.c.t.ks.length m.c.t.cap, .slice m.c.ea m.c.e.length m.c.ec, .slice m.sa m.s.length m.sc, .slice m.ha m.h.length m.hc] 48))).alloc (.cells #[.bool false] 4)))
  have BRR := Lib.hid (Boxed.new ((w.alloc (.cells #[.slice u.a u.ks.length u.cap] 39)).alloc (.cells #[.int .i64 m.c.t.k, .int .i64 m.c.t.v, .slice m.c.t.da m.c.t.ds.length m.c.t.dc, .slice m.c.t.a m.c.t.ks.length m.c.t.cap, .slice m.c.ea m.c.e.length m.c.ec, .slice m.sa m.s.length m.sc, .slice m.ha m.h.length m.hc] 48)) 4 (.bool false))
  have HU := Lib.hid (hu.grow g3)
  have TB := Lib.hid (hT.grow g3)
  have G := Lib.hid g3
  have HBR := Lib.hid (show w.heap.size ≤ ((w.alloc (.cells #[.slice u.a u.ks.length u.cap] 39)).alloc (.cells #[.int .i64 m.c.t.k, .int .i64 m.c.t.v, .slice m.c.t.da m.c.t.ds.length m.c.t.dc, .slice m.c.t.a m.c.t.ks.length m.c.t.cap, .slice m.c.ea m.c.e.length m.c.ec, .slice m.sa m.s.length m.sc, .slice m.ha m.h.length m.hc] 48)).heap.size from g2.size)
  clear hu hm hT g1 g2 g3 AX0
  refine (callsIn_wide (n := 9)).1 ?_
  refine callsIn_of_wp_marks Tryd.func11 rfl trivial ?_ rfl
  simp only [Tryd.ntmps11, List.size_toArray, List.length_cons, List.length_nil, Nat.reduceAdd, Nat.reduceSub, Array.replicate_succ, Array.replicate_zero, List.push_toArray, List.append_toArray, List.nil_append, List.cons_append]
  have f1 : Fence.wide.fn 39 := trivial
  have f2 : Fence.wide.fn 37 := trivial
  have f3 : Fence.wide.fn 40 := trivial
  have f4 : Fence.wide.fn 41 := trivial
  have f5 : Fence.wide.fn 42 := trivial
  have f6 : Fence.wide.fn 43 := trivial
  gi_upto_region 1 with (fail)
  obtain ⟨w3, hw3⟩ : ∃ x, x = (((w.alloc (.cells #[.slice u.a u.ks.length u.cap] 39)).alloc (.cells #[.int .i64 m.c.t.k, .int .i64 m.c.t.v, .slice m.c.t.da m.c.t.ds.length m.c.t.dc, .slice m.c.t.a m.c.t.ks.length m.c.t.cap, .slice m.c.ea m.c.e.length m.c.ec, .slice m.sa m.s.length m.sc, .slice m.ha m.h.length m.hc] 48)).alloc (.cells #[.bool false] 4)) := ⟨_, rfl⟩
  obtain ⟨BB, hBB⟩ : ∃ x, x = w.heap.size := ⟨_, rfl⟩
  obtain ⟨BN, hBN⟩ : ∃ x, x = (w.alloc (.cells #[.slice u.a u.ks.length u.cap] 39)).heap.size := ⟨_, rfl⟩
  obtain ⟨BR, hBR⟩ : ∃ x, x = ((w.alloc (.cells #[.slice u.a u.ks.length u.cap] 39)).alloc (.cells #[.int .i64 m.c.t.k, .int .i64 m.c.t.v, .slice m.c.t.da m.c.t.ds.length m.c.t.dc, .slice m.c.t.a m.c.t.ks.length m.c.t.cap, .slice m.c.ea m.c.e.length m.c.ec, .slice m.sa m.s.length m.sc, .slice m.ha m.h.length m.hc] 48)).heap.size := ⟨_, rfl⟩
  rw [← hw3] at PB AX BRR HU TB G
  rw [← hBN] at AX
  rw [← hBR] at BRR HBR
  rw [← hw3]
  simp only [World.size_alloc] at hBN hBR
  have HSZ := Lib.hid (show w.heap.size + 2 = BR ∧ BR < w3.heap.size by rw [hw3, hBR]; simp)
  rw [← hBB] at PB hBN hBR
  rw [← hBB]
  first | rw [← hBR] | skip
  first | rw [← hBN] | skip
  clear hw3 hBB hBN hBR
  have k0 := PB.out.c
  gi_upto_region 2 with (fail)
  have gD : Gw w3 (w3.alloc (.cells #[.int .i64 u.ks.length] 3)) := (Gw.refl w3).alloc _
  have BDD := Lib.hid (Boxed.new w3 3 (.int .i64 u.ks.length))
  clear k0
  generalize w3.alloc (.cells #[.int .i64 u.ks.length] 3) = w4 at *
  obtain ⟨BD, hBD⟩ : ∃ x, x = w3.heap.size := ⟨_, rfl⟩
  rw [← hBD] at BDD ⊢
  replace HSZ := Lib.hid (show w.heap.size + 2 = BR ∧ BR < BD by have := HSZ.out; omega)
  replace PB := Lib.hid (PB.out.grow gD)
  replace AX := Lib.hid (AX.out.grow ndGr gD)
  replace BRR := Lib.hid (show Boxed w4 BR 4 (.bool false) from (gD.block _ BRR.out.lt).trans BRR.out)
  replace HU := Lib.hid (HU.out.grow gD)
  replace TB := Lib.hid (TB.out.grow gD)
  replace G := Lib.hid (G.out.trans gD)
  clear gD hBD
  have KE0 := impl_eb u w4 HU.out TB.out
  rw [h0] at KE0
  have KE := Lib.hid KE0
  clear KE0 h0
  have k0 := (PB.out.grow (Gw.refl w4)).c
  gi_wp2_with fail
  refine (callsIn_wide.2 KE.out).mono ?_
  rintro e w5 ⟨rfl, g5⟩
  have G5 := Lib.hid g5
  clear k0 KE g5
  have q6 := (AX.out.grow ndGr G5.out).1 6 _ rfl
  have z1 : decide ((2000 : Int) < (m.h.length : Int)) = false := decide_eq_false (by omega)
  have z2 : decide ((400 : Int) < (m.s.length : Int)) = false := decide_eq_false (by omega)
  have q5 := (AX.out.grow ndGr G5.out).1 5 _ rfl
  have KC0 := impl_clo m.c u.ks.length w5 BN 0 (AX.out.grow ndGr G5.out).nc (TB.out.grow G5.out)
  rw [h3] at KC0
  have KC := Lib.hid KC0
  clear KC0 h3
  have kd := (show Boxed w5 BD 3 (.int .i64 u.ks.length) from ((G5.out).block _ BDD.out.lt).trans BDD.out).cell
  gi_wp2_with fail
  refine (callsIn_wide.2 KC.out).mono ?_
  rintro e w6 ⟨rfl, g6⟩
  have G6 := Lib.hid (G5.out.trans g6)
  clear KC kd q5 q6 z1 z2 g6
  have KC0 := impl_anyFr m.s u.ks.length BD w6 m.sa m.sc (AX.out.grow ndGr G6.out).2.2.1 (show Boxed w6 BD 3 (.int .i64 u.ks.length) from ((G6.out).block _ BDD.out.lt).trans BDD.out).cell (TB.out.grow G6.out)
  rw [h4] at KC0
  have KC := Lib.hid KC0
  clear KC0 h4
  have q5 := (AX.out.grow ndGr G6.out).1 5 _ rfl
  gi_wp2_with fail
  refine (callsIn_wide.2 KC.out).mono ?_
  rintro e w7 ⟨rfl, g7⟩
  have G7 := Lib.hid (G6.out.trans g7)
  clear KC q5 g7
  have KC0 := impl_anyTh m.h u.ks.length BD w7 m.ha m.hc (AX.out.grow ndGr G7.out).2.2.2 (show Boxed w7 BD 3 (.int .i64 u.ks.length) from ((G7.out).block _ BDD.out.lt).trans BDD.out).cell (TB.out.grow G7.out)
  rw [h5] at KC0
  have KC := Lib.hid KC0
  clear KC0 h5
  have q6 := (AX.out.grow ndGr G7.out).1 6 _ rfl
  gi_wp2_with fail
  refine (callsIn_wide.2 KC.out).mono ?_
  rintro e w8 ⟨rfl, g8⟩
  have G8 := Lib.hid (G7.out.trans g8)
  clear KC q6 g8
  have BRR2 := Lib.hid (show Boxed w8 BR 4 (.bool false) from (G8.out.block _ BRR.out.lt).trans BRR.out)
  have AX2 := Lib.hid (AX.out.grow ndGr G8.out)
  have G2 := Lib.hid (G.out.trans G8.out)
  have KN := Lib.hid (impl_addressPlaces BN 0 w8)
  gi_wp2_with fail
  refine (callsIn_wide.2 KN.out).mono ?_
  rintro e w9 ⟨rfl, hw9'⟩
  have HW9 := Lib.hid hw9'
  clear hw9'
  gi_wp2_with fail
  have hw9 := HW9.out
  clear HW9
  obtain ⟨B, hB⟩ : ∃ x, x = w8.heap.size := ⟨_, rfl⟩
  have g89 : Gw w8 w9 := by rw [hw9]; exact (Gw.refl w8).alloc _
  have hBs : B < w9.heap.size := by rw [hw9, hB]; simp
  have HC := Lib.hid (show w9.cell? ⟨B, 0, none⟩ = some (.pointer (some ⟨BN, 0, none⟩)) by rw [hw9, hB]; exact cell_of_row _ _ 0 _ _ _ (heap_alloc_new w8 _))
  have CA := Lib.hid (AX2.out.grow ndGr g89)
  have G9 := Lib.hid (G2.out.trans g89)
  have HB1 := Lib.hid (show w.heap.size ≤ BR ∧ BR < w9.heap.size ∧ w.heap.size ≤ w9.heap.size from ⟨by have := HSZ.out; omega, Nat.lt_of_lt_of_le BRR2.out.lt g89.size, (G2.out.trans g89).size⟩)
  have I0 := Lib.hid (show (Boxed w9 BR 4 (.bool false) ∧ Below w9.heap.size w9 w9) ∧ ∀ x ∈ ([] : List (PlS w9 (plcs m))), inH m.h.length x.1.v = true from ⟨⟨(g89.block _ BRR2.out.lt).trans BRR2.out, Below.refl _ _⟩, fun x h => by cases h⟩)
  rw [← hB]
  clear hw9 g89 hB KN
  have hmx : Tryd.prog.follows .mixedOrders = true := by kernel_rfl
  refine wpIn_rangeFunc_ownH rfl (by omega) (gf := 84) (lb := #[.pointer (some ⟨B, 0, none⟩)]) rfl trivial (enters_of Tryd.func84 (by kernel_rfl) rfl)
    (ap_stops (9 - 1) (by omega) B BN m w9 w9 hBs HC.out CA.out (Gw.refl w9)) KeepQ.trans (keepQ_b (Nat.le_refl _)) (Below.refl _ _) (fun _ => rfl)
    (fun pre W => (Boxed W BR 4 (.bool false) ∧ Below w9.heap.size w9 W) ∧ ∀ x ∈ pre, inH m.h.length x.1.v = true)
    (fun cc pre W => cc = .ret ∧ (∃ x ∈ pre, inH m.h.length x.1.v = false) ∧ Boxed W BR 4 (.bool false) ∧ Below w.heap.size w W)
    (OwnFrom.and (OwnFrom.and (Own.from (boxed_own _ _ _) _) (ownFrom_below (Nat.le_refl _) (Nat.le_refl _))) (fun _ _ _ _ h _ _ => h))
    (fun cc => OwnFrom.and (fun _ _ _ _ h _ _ => h) (OwnFrom.and (fun _ _ _ _ h _ _ => h) (OwnFrom.and (Own.from (boxed_own _ _ _) _) (ownFrom_below (Nat.le_refl _) HB1.out.2.2))))
    I0.out
    (fun x a' W => a' = { tmps := #[u.val, m.val, .pointer (some ⟨BB, 0, none⟩), .pointer (some ⟨BN, 0, none⟩), .pointer (some ⟨BR, 0, none⟩), .pointer (some ⟨BD, 0, none⟩), .func (.func 34) #[] #[.pointer (some ⟨BD, 0, none⟩)], .func (.func 36) #[] #[.pointer (some ⟨BD, 0, none⟩)], .pointer (some ⟨x.1.b, x.1.o, none⟩), .pointer (some ⟨BB, 0, none⟩), .slice u.a u.ks.length u.cap, .int .i64 u.ks.length, .func (.func 34) #[] #[.pointer (some ⟨BD, 0, none⟩)], .func (.func 36) #[] #[.pointer (some ⟨BD, 0, none⟩)], .agg #[.slice u.a u.ks.length u.cap], .bool true, .bool false, .bool false, .pointer (some ⟨BN, 6, none⟩), .slice m.ha m.h.length m.hc, .int .i64 m.h.length, .bool false, .bool false, .bool false, .pointer (some ⟨BN, 5, none⟩), .slice m.sa m.s.length m.sc, .int .i64 m.s.length, .bool false, .bool false, .bool false, .pointer (some ⟨BN, 0, none⟩), .int .i64 u.ks.length, .bool true, .bool false, .bool false, .bool false, .pointer (some ⟨BN, 5, none⟩), .slice m.sa m.s.length m.sc, .func (.func 34) #[] #[.pointer (some ⟨BD, 0, none⟩)], .bool false, .bool false, .bool false, .pointer (some ⟨BN, 6, none⟩), .slice m.ha m.h.length m.hc, .func (.func 36) #[] #[.pointer (some ⟨BD, 0, none⟩)], .bool false, .bool false, .func (.func 84) #[] #[.pointer (some ⟨B, 0, none⟩)], .pointer (some ⟨x.1.b, x.1.o, none⟩), undef, undef, undef, undef, undef, undef, undef, undef], defers := [] })
    (fun x a' _ X Y row hs hg hr => hs)
    ?assign ?body ?done ?stop
  case assign =>
    rintro l pre x W K hi hK
    have HI := Lib.hid hi
    have HK := Lib.hid hK
    clear hi hK
    simp only [encP]
    gi_wp2
    exact HK.out _ _ (keeps_of_gw (Gw.refl W)) (KeepQ.gw HI.out.1.2.size (Gw.refl W)) HI.out rfl
  case body =>
    rintro l pre x a' W hl ⟨r, hr⟩ ⟨⟨iR, iB⟩, hall⟩ rfl hlen
    have IR := Lib.hid iR
    have IB := Lib.hid iB
    have HALL := Lib.hid hall
    have hsz : w9.heap.size ≤ W.heap.size := iB.size
    have q6 := (CA.out.grow ndGr (show Gw w9 W from iB)).1 6 _ rfl
    have vc : W.cell? ⟨x.1.b, x.1.o, none⟩ = some (.int .i64 x.1.v) := (show Gw w9 W from iB).cell x.2.2 (cell_lt x.2.2)
    have iR2 : Boxed W.drew BR 4 (.bool false) := ((Gw.refl W).drew.block _ iR.lt).trans iR
    have cR := iR2.cell
    have fR := iR2.frozen
    have KI := impl_isIndex x.1.v (m.h.length : Int) W.drew
    clear iR iB hall hr r iR2
    cases hv : inV x.1.v 0 ((m.h.length : Int) - 1) with
    | true =>
      have F := Lib.hid hv
      rw [hv] at KI
      have KII := Lib.hid KI
      clear KI hv
      gi_upto_region 8 with (fail)
      refine regIn_hid (fun L hL => ?_)
      have HL := Lib.hid hL
      clear hL
      refine regIn_start 6 hmx (by rw [HL.out]; kernel_rfl) (fun ⟨_, _, h⟩ => h) (by rw [HL.out]; kernel_rfl) ?_
      refine reg_do 0 (by decide) (by rw [HL.out]; rfl) (by rw [HL.out]; kernel_rfl) ?_; intro K hK; go_simp; refine hK _ ?_; clear hK K
      refine reg_do 1 (by decide) (by rw [HL.out]; rfl) (by rw [HL.out]; kernel_rfl) ?_; intro K hK; go_simp; refine hK _ ?_; clear hK K
      refine reg_do 2 (by decide) (by rw [HL.out]; rfl) (by rw [HL.out]; kernel_rfl) ?_; intro K hK; go_simp; refine hK _ ?_; clear hK K
      refine reg_do 3 (by decide) (by rw [HL.out]; rfl) (by rw [HL.out]; kernel_rfl) ?_; intro K hK; go_simp; refine hK _ ?_; clear hK K
      refine reg_do 4 (by decide) (by rw [HL.out]; rfl) (by rw [HL.out]; kernel_rfl) ?_; intro K hK; go_simp; refine hK _ ?_; clear hK K
      refine reg_do 5 (by decide) (by rw [HL.out]; rfl) (by rw [HL.out]; kernel_rfl) ?_; intro K hK; go_simp; refine hK _ ?_; clear hK K
      refine reg_end ?_
      clear vc q6
      refine tailIn_do 6 (by rw [HL.out]; rfl) (by rw [HL.out]; kernel_rfl) ?_
      intro K hK
      refine ⟨fun _ _ => trivial, ?_⟩
      rw [Oper.semAt_eq _ _ _ (fun c h => by cases h)]
      have HK2 := Lib.hid hK
      clear hK
      go_simp
      refine (CallsIn.inRound l (callsIn_wide.2 KII.out)).mono ?_
      rintro e W4 ⟨rfl, rfl⟩
      refine HK2.out _ _ ?_
      clear HK2 K KII
      refine tailIn_do 7 (by rw [HL.out]; rfl) (by rw [HL.out]; kernel_rfl) ?_; intro K hK; refine ⟨fun _ _ => trivial, ?_⟩; rw [Oper.semAt_eq _ _ _ (fun c h => by cases h)]; go_simp; refine hK _ _ ?_; clear hK K
      refine tailIn_end 8 (by rw [HL.out]; decide) ?_
      clear cR fR
      gi_wp2
      exact ⟨keeps_of_gw (Gw.refl W).drew, KeepQ.gw hsz (Gw.refl W).drew, ⟨(Gw.refl W).drew.block _ IR.out.lt |>.trans IR.out, IB.out.drew⟩, fun y hy => by
        rcases List.mem_append.1 hy with hy | hy
        · exact HALL.out y hy
        · obtain rfl : y = x := by simpa using hy
          exact F.out⟩
    | false =>
      have F := Lib.hid hv
      rw [hv] at KI
      have KII := Lib.hid KI
      clear KI hv
      gi_upto_region 8 with (fail)
      refine regIn_hid (fun L hL => ?_)
      have HL := Lib.hid hL
      clear hL
      refine regIn_start 6 hmx (by rw [HL.out]; kernel_rfl) (fun ⟨_, _, h⟩ => h) (by rw [HL.out]; kernel_rfl) ?_
      refine reg_do 0 (by decide) (by rw [HL.out]; rfl) (by rw [HL.out]; kernel_rfl) ?_; intro K hK; go_simp; refine hK _ ?_; clear hK K
      refine reg_do 1 (by decide) (by rw [HL.out]; rfl) (by rw [HL.out]; kernel_rfl) ?_; intro K hK; go_simp; refine hK _ ?_; clear hK K
      refine reg_do 2 (by decide) (by rw [HL.out]; rfl) (by rw [HL.out]; kernel_rfl) ?_; intro K hK; go_simp; refine hK _ ?_; clear hK K
      refine reg_do 3 (by decide) (by rw [HL.out]; rfl) (by rw [HL.out]; kernel_rfl) ?_; intro K hK; go_simp; refine hK _ ?_; clear hK K
      refine reg_do 4 (by decide) (by rw [HL.out]; rfl) (by rw [HL.out]; kernel_rfl) ?_; intro K hK; go_simp; refine hK _ ?_; clear hK K
      refine reg_do 5 (by decide) (by rw [HL.out]; rfl) (by rw [HL.out]; kernel_rfl) ?_; intro K hK; go_simp; refine hK _ ?_; clear hK K
      refine reg_end ?_
      clear vc q6
      refine tailIn_do 6 (by rw [HL.out]; rfl) (by rw [HL.out]; kernel_rfl) ?_
      intro K hK
      refine ⟨fun _ _ => trivial, ?_⟩
      rw [Oper.semAt_eq _ _ _ (fun c h => by cases h)]
      have HK2 := Lib.hid hK
      clear hK
      go_simp
      refine (CallsIn.inRound l (callsIn_wide.2 KII.out)).mono ?_
      rintro e W4 ⟨rfl, rfl⟩
      refine HK2.out _ _ ?_
      clear HK2 K KII
      refine tailIn_do 7 (by rw [HL.out]; rfl) (by rw [HL.out]; kernel_rfl) ?_; intro K hK; refine ⟨fun _ _ => trivial, ?_⟩; rw [Oper.semAt_eq _ _ _ (fun c h => by cases h)]; go_simp; refine hK _ _ ?_; clear hK K
      refine tailIn_end 8 (by rw [HL.out]; decide) ?_
      gi_wp2
      exact ⟨(keeps_of_gw (Gw.refl W).drew).trans ((KeepsOthers.setCell _ _ _).from _), rfl, ⟨x, by simp, F.out⟩, (show Boxed W.drew BR 4 (.bool false) from ((Gw.refl W).drew.block _ IR.out.lt).trans IR.out).set _, (Below.trans G9.out (IB.out.drew.mono HB1.out.2.2)).setCell (p := ⟨BR, 0, none⟩) HB1.out.1 _⟩
  case done =>
    rintro D ys W hD hys ⟨⟨iR, iB⟩, hall⟩ hK
    have HE := Lib.hid (show (plcs m).all (inH m.h.length) = true by
      rw [← hys, List.all_map]
      exact List.all_eq_true.2 fun x hx => hall x hx)
    have IR := Lib.hid iR
    have cR := iR.cell
    have fR := iR.frozen
    have HKK := Lib.hid hK
    have BB2 := Lib.hid ((Below.trans G9.out (iB.mono HB1.out.2.2)).setCell (p := ⟨BR, 0, none⟩) HB1.out.1 (.bool true))
    clear iR iB hK hys hall
    gi_wp2
    have hD2 : BR ≠ D := by have := HB1.out; omega
    have hKD : (W.setCell ⟨BR, 0, none⟩ (.bool true)).heap[D]? = some (.deferred (some [])) := (Below.heap_setCell _ _ _ _ (by simpa using fun e => hD2 e.symm)).trans HKK.out
    have cF : ((W.setCell ⟨BR, 0, none⟩ (.bool true)).putObj D (.deferred none)).cell? ⟨BR, 0, none⟩ = some (.bool true) := Boxed.cell ((World.putObj_heap_other hD2).trans (IR.out.set (.bool true)))
    refine ⟨by simp, .inl ⟨_, _, rfl, run_takeDeferred hKD, ?_⟩⟩
    exact ⟨.bool true, by simp [results, Tryd.results11, go_sem, cF], by rw [HE.out], BB2.out.trans (belowK_b (w := w) (Nat.le_refl _) _ D _ (.deferred none) (by have := HB1.out; omega) hKD rfl rfl)⟩
  case stop =>
    rintro D cc pre W hD _ ⟨rfl, hex, iR, iB⟩ hK
    have HE := Lib.hid (show (plcs m).all (inH m.h.length) = false by
      obtain ⟨y, hy, hle⟩ := hex
      exact List.all_eq_false.2 ⟨y.1.v, y.2.1, by rw [hle]; simp⟩)
    have IR := Lib.hid iR
    have HKK := Lib.hid hK
    have BB2 := Lib.hid iB
    clear iR iB hK hex
    gi_wp2
    have hD2 : BR ≠ D := by have := HB1.out; omega
    have cF : (W.putObj D (.deferred none)).cell? ⟨BR, 0, none⟩ = some (.bool false) := Boxed.cell ((World.putObj_heap_other hD2).trans IR.out)
    refine ⟨by simp, .inl ⟨_, _, rfl, run_takeDeferred HKK.out, ?_⟩⟩
    exact ⟨.bool false, by simp [results, Tryd.results11, go_sem, cF], by rw [HE.out], BB2.out.trans (belowK_b (w := w) (Nat.le_refl _) _ D _ (.deferred none) (by have := HB1.out; omega) HKK.out rfl rfl)⟩

theorem clG_A (n : Int) (A : Int → Bool) (u : LClP) : clG n A u = (clG n (fun _ => true) u && u.2.all A) := by
  unfold clG
  have : u.2.all (fun _ => true) = true := List.all_eq_true.2 fun _ _ => rfl
  rw [this]
  cases okC u.1 <;> cases u.1.all erH <;> cases u.1.all (refH n) <;> cases (u.1.pl u.2.length 0).any freeP <;> cases decide (u.2.length ≤ 256) <;> rfl
theorem thG_A (n : Int) (A : Int → Bool) (c : LThP) : thG n A c = (thG n (fun _ => true) c && c.2.2.all A) := by
  unfold thG
  rw [clG_A n A]
  cases clG n (fun _ => true) c.2 <;> cases c.2.2.all A <;> cases (!c.1 || valC c.2) <;> rfl
theorem noc_nil {u : LClP} (h : nocC u = true) : u.2 = [] := by
  unfold nocC at h
  simp only [Bool.and_eq_true, decide_eq_true_eq] at h
  exact List.length_eq_zero_iff.1 h.2.2.2.2
theorem frG_A (n : Int) (A : Int → Bool) (f : LFr) : frG n A f.pu = (frG n (fun _ => true) f.pu && (frP f).all A) := by
  by_cases h3 : f.k = 3
  · have e : f.pu.1 = 3 := h3
    have hp : frP f = f.c.e := by unfold frP; rw [if_neg (by omega)]; rfl
    unfold frG
    rw [if_pos e, if_pos e, clG_A n A, hp]
    simp only [Bool.and_assoc]
    rfl
  · have e : ¬ f.pu.1 = 3 := h3
    unfold frG
    rw [if_neg e, if_neg e]
    cases hn : nocC f.pu.2.2.2 with
    | false => rfl
    | true =>
      have he : f.c.e = [] := noc_nil hn
      by_cases h12 : f.k = 1 ∨ f.k = 2
      · have e12 : f.pu.1 = 1 ∨ f.pu.1 = 2 := h12
        have hp : frP f = [f.v] := by unfold frP; rw [if_pos h12, he]; rfl
        rw [if_pos e12, if_pos e12, hp]
        simp only [Bool.true_and, List.all_cons, List.all_nil, Bool.and_true]
        exact Bool.and_comm _ _
      · have e12 : ¬ (f.pu.1 = 1 ∨ f.pu.1 = 2) := h12
        have hp : frP f = [] := by unfold frP; rw [if_neg h12, he]; rfl
        rw [if_neg e12, if_neg e12, hp]
        simp only [List.all_nil, Bool.and_true]
theorem frs_A (n : Int) (A : Int → Bool) (xs : List LFr) : (xs.map LFr.pu).all (frG n A) = ((xs.map LFr.pu).all (frG n (fun _ => true)) && (xs.flatMap frP).all A) := by
  induction xs with
  | nil => rfl
  | cons x xs ih =>
    rw [List.map_cons, List.all_cons, List.all_cons, ih, frG_A n A x, List.flatMap_cons, List.all_append]
    generalize frG n (fun _ => true) x.pu = a
    generalize (frP x).all A = b
    generalize (xs.map LFr.pu).all (frG n (fun _ => true)) = c
    generalize (xs.flatMap frP).all A = d
    cases a <;> cases b <;> cases c <;> cases d <;> rfl
theorem ths_A (n : Int) (A : Int → Bool) (xs : List LTh) : (xs.map LTh.pu).all (thG n A) = ((xs.map LTh.pu).all (thG n (fun _ => true)) && (xs.flatMap fun t => t.c.e).all A) := by
  induction xs with
  | nil => rfl
  | cons x xs ih =>
    rw [List.map_cons, List.all_cons, List.all_cons, ih, thG_A n A x.pu, List.flatMap_cons, List.all_append]
    rw [show x.pu.2.2 = x.c.e from rfl]
    generalize thG n (fun _ => true) x.pu = a
    generalize x.c.e.all A = b
    generalize (xs.map LTh.pu).all (thG n (fun _ => true)) = c
    generalize (xs.flatMap fun t => t.c.e).all A = d
    cases a <;> cases b <;> cases c <;> cases d <;> rfl
theorem okNd_split (u : LB) (m : LNd) : okNd u.cs m.pu = (ebC u.cs && (decide (m.h.length ≤ 2000) && (decide (m.s.length ≤ 400) && (clG u.ks.length (fun _ => true) m.c.pu && ((m.s.map LFr.pu).all (frG u.ks.length (fun _ => true)) && ((m.h.map LTh.pu).all (thG u.ks.length (fun _ => true)) && (plcs m).all (inH m.h.length))))))) := by
  rw [ok_parts, clG_A _ (inH m.h.length), frs_A _ (inH m.h.length), ths_A _ (inH m.h.length)]
  unfold plcs
  rw [List.all_append, List.all_append, show m.c.pu.2 = m.c.e from rfl]
  generalize clG u.ks.length (fun _ => true) m.c.pu = a
  generalize m.c.e.all (inH m.h.length) = b
  generalize (m.s.map LFr.pu).all (frG u.ks.length (fun _ => true)) = c
  generalize (m.s.flatMap frP).all (inH m.h.length) = d
  generalize (m.h.map LTh.pu).all (thG u.ks.length (fun _ => true)) = e
  generalize (m.h.flatMap fun t => t.c.e).all (inH m.h.length) = f
  cases a <;> cases b <;> cases c <;> cases d <;> cases e <;> cases f <;> rfl

theorem impl_validNd (u : LB) (m : LNd) (w : World) (hu : bOk w u) (hm : ndOk w m) (hT : KTbl w) : Calls Tryd.prog 11 #[u.val, m.val] w (BoolGw (okNd u.cs m.pu) w) := by
  rw [okNd_split]
  cases h0 : ebC u.cs with
  | false => exact impl_vn_no0 u m w hu hm hT h0
  | true =>
  by_cases h1 : m.h.length ≤ 2000
  rotate_left
  · rw [decide_eq_false h1]; exact impl_vn_no1 u m w hu hm hT h0 h1
  rw [decide_eq_true h1]
  by_cases h2 : m.s.length ≤ 400
  rotate_left
  · rw [decide_eq_false h2]; exact impl_vn_no2 u m w hu hm hT h0 h1 h2
  rw [decide_eq_true h2]
  cases h3 : clG u.ks.length (fun _ => true) m.c.pu with
  | false => exact impl_vn_no3 u m w hu hm hT h0 h1 h2 h3
  | true =>
  cases h4 : (m.s.map LFr.pu).all (frG u.ks.length (fun _ => true)) with
  | false => exact impl_vn_no4 u m w hu hm hT h0 h1 h2 h3 h4
  | true =>
  cases h5 : (m.h.map LTh.pu).all (thG u.ks.length (fun _ => true)) with
  | false => exact impl_vn_no5 u m w hu hm hT h0 h1 h2 h3 h4 h5
  | true => exact impl_vn_yes u m w hu hm hT h0 h1 h2 h3 h4 h5

set_option maxRecDepth 100000 in
set_option maxHeartbeats 2000000 in
theorem impl_finNd (u : LB) (m : LNd) (w : World) (hu : bOk w u) (hm : ndOk w m) (hT : KTbl w) : Calls Tryd.prog 24 #[u.val, m.val] w (BoolGw (okNd u.cs m.pu && doneC m.pu) w) := by
  have hls : m.s.length ≤ 9223372036854775807 := Nat.le_trans hm.2.1.1 hm.2.1.2.1
  have g1 : Gw w (w.alloc (.cells #[.slice u.a u.ks.length u.cap] 39)) := (Gw.refl w).alloc _
  have g2 : Gw w ((w.alloc (.cells #[.slice u.a u.ks.length u.cap] 39)).alloc (.cells #[.int .i64 m.c.t.k, .int .i64 m.c.t.v, .slice m.c.t.da m.c.t.ds.length m.c.t.dc, .slice m.c.t.a m.c.t.ks.length m.c.t.cap, .slice m.c.ea m.c.e.length m.c.ec, .slice m.sa m.s.length m.sc, .slice m.ha m.h.length m.hc] 48)) := g1.alloc _
  have PB := Lib.hid ((BoxB.new w u 39).grow ((Gw.refl (w.alloc (.cells #[.slice u.a u.ks.length u.cap] 39))).alloc (.cells #[.int .i64 m.c.t.k, .int .i64 m.c.t.v, .slice m.c.t.da m.c.t.ds.length m.c.t.dc, .slice m.c.t.a m.c.t.ks.length m.c.t.cap, .slice m.c.ea m.c.e.length m.c.ec, .slice m.sa m.s.length m.sc, .slice m.ha m.h.length m.hc] 48)))
  have AX : Hid (ndAt ((w.alloc (.cells #[.slice u.a u.ks.length u.cap] 39)).alloc (.cells #[.int .i64 m.c.t.k, .int .i64 m.c.t.v, .slice m.c.t.da m.c.t.ds.length m.c.t.dc, .slice m.c.t.a m.c.t.ks.length m.c.t.cap, .slice m.c.ea m.c.e.length m.c.ec, .slice m.sa m.s.length m.sc, .slice m.ha m.h.length m.hc] 48)) (w.alloc (.cells #[.slice u.a u.ks.length u.cap] 39)).heap.size 0 m) := Lib.hid (gAt.new ndGr (w := (w.alloc (.cells #[.slice u.a u.ks.length u.cap] 39))) (cs := #[.int .i64 m.c.t.k, .int .i64 m.c.t.v, .slice m.c.t.da m.c.t.ds.length m.c.t.dc, .slice m.c.t.a m.c.t.ks.length m.c.t.cap, .slice m.c.ea m.c.e.length m.c.ec, .slice m.sa m.s.length m.sc, .slice m.ha m.h.length m.hc]) (e := 48) rfl (ndGr _ _ _ hm g1))
  have KV0 := impl_validNd u m ((w.alloc (.cells #[.slice u.a u.ks.length u.cap] 39)).alloc (.cells #[.int .i64 m.c.t.k, .int .i64 m.c.t.v, .slice m.c.t.da m.c.t.ds.length m.c.t.dc, .slice m.c.t.a m.c.t.ks.length m.c.t.cap, .slice m.c.ea m.c.e.length m.c.ec, .slice m.sa m.s.length m.sc, .slice m.ha m.h.length m.hc] 48)) (hu.grow g2) (ndGr _ _ _ hm g2) (hT.grow g2)
  have G := Lib.hid g2
  have DE := Lib.hid (show doneC m.pu = (decide (m.s.length = 0) && valC m.c.pu) by unfold doneC; rw [show m.pu.2.1.length = m.s.length from List.length_map _]; rfl)
  clear hu hm hT g1 g2
  cases hv : okNd u.cs m.pu with
  | false =>
  rw [hv] at KV0
  have KV := Lib.hid KV0
  clear KV0 hv DE
  go_enter Tryd.func24, Tryd.ntmps24
  go_upto_region 1 with (fail)
  generalize ((w.alloc (.cells #[.slice u.a u.ks.length u.cap] 39)).alloc (.cells #[.int .i64 m.c.t.k, .int .i64 m.c.t.v, .slice m.c.t.da m.c.t.ds.length m.c.t.dc, .slice m.c.t.a m.c.t.ks.length m.c.t.cap, .slice m.c.ea m.c.e.length m.c.ec, .slice m.sa m.s.length m.sc, .slice m.ha m.h.length m.hc] 48)) = w2 at *
  obtain ⟨BB, hBB⟩ : ∃ x, x = w.heap.size := ⟨_, rfl⟩
  obtain ⟨BN, hBN⟩ : ∃ x, x = (w.alloc (.cells #[.slice u.a u.ks.length u.cap] 39)).heap.size := ⟨_, rfl⟩
  rw [← hBB] at PB
  rw [← hBN] at AX
  simp only [World.size_alloc] at hBN
  rw [← hBB] at hBN
  rw [← hBB]
  first | rw [← hBN] | skip
  clear hBB hBN
  have k0 := PB.out.c
  have q0 := AX.out.1 0 _ rfl
  have q1 := AX.out.1 1 _ rfl
  have q2 := AX.out.1 2 _ rfl
  have q3 := AX.out.1 3 _ rfl
  have q4 := AX.out.1 4 _ rfl
  have q5 := AX.out.1 5 _ rfl
  have q6 := AX.out.1 6 _ rfl
  rw [Nat.add_zero] at q0
  go_wp2_with fail
  refine KV.out.mono ?_
  rintro e w3 ⟨rfl, g3⟩
  clear k0 q0 q1 q2 q3 q4 q5 q6
  go_wp2_with fail
  go_ret
  exact ⟨rfl, G.out.trans g3⟩
  | true =>
  rw [hv] at KV0
  have KV := Lib.hid KV0
  clear KV0 hv
  by_cases h1 : m.s.length = 0
  rotate_left
  · have F := Lib.hid (show (true && doneC m.pu) = false by rw [DE.out, decide_eq_false h1]; rfl)
    have z1 : ((m.s.length : Int) == 0) = false := beq_eq_false_iff_ne.2 (by omega)
    clear DE h1
    go_enter Tryd.func24, Tryd.ntmps24
    go_upto_region 1 with (fail)
    generalize ((w.alloc (.cells #[.slice u.a u.ks.length u.cap] 39)).alloc (.cells #[.int .i64 m.c.t.k, .int .i64 m.c.t.v, .slice m.c.t.da m.c.t.ds.length m.c.t.dc, .slice m.c.t.a m.c.t.ks.length m.c.t.cap, .slice m.c.ea m.c.e.length m.c.ec, .slice m.sa m.s.length m.sc, .slice m.ha m.h.length m.hc] 48)) = w2 at *
    obtain ⟨BB, hBB⟩ : ∃ x, x = w.heap.size := ⟨_, rfl⟩
    obtain ⟨BN, hBN⟩ : ∃ x, x = (w.alloc (.cells #[.slice u.a u.ks.length u.cap] 39)).heap.size := ⟨_, rfl⟩
    rw [← hBB] at PB
    rw [← hBN] at AX
    simp only [World.size_alloc] at hBN
    rw [← hBB] at hBN
    rw [← hBB]
    first | rw [← hBN] | skip
    clear hBB hBN
    have k0 := PB.out.c
    have q0 := AX.out.1 0 _ rfl
    have q1 := AX.out.1 1 _ rfl
    have q2 := AX.out.1 2 _ rfl
    have q3 := AX.out.1 3 _ rfl
    have q4 := AX.out.1 4 _ rfl
    have q5 := AX.out.1 5 _ rfl
    have q6 := AX.out.1 6 _ rfl
    rw [Nat.add_zero] at q0
    go_wp2_with fail
    refine KV.out.mono ?_
    rintro e w3 ⟨rfl, g3⟩
    clear k0 q0 q1 q2 q3 q4 q5 q6
    have q5 := (AX.out.grow ndGr g3).1 5 _ rfl
    go_wp2_with fail
    go_ret
    exact ⟨ret_b F.out.symm, G.out.trans g3⟩
  have F := Lib.hid (show (true && doneC m.pu) = valC m.c.pu by rw [DE.out, decide_eq_true h1]; rfl)
  have z1 : ((m.s.length : Int) == 0) = true := beq_iff_eq.2 (by omega)
  clear DE h1
  go_enter Tryd.func24, Tryd.ntmps24
  go_upto_region 1 with (fail)
  generalize ((w.alloc (.cells #[.slice u.a u.ks.length u.cap] 39)).alloc (.cells #[.int .i64 m.c.t.k, .int .i64 m.c.t.v, .slice m.c.t.da m.c.t.ds.length m.c.t.dc, .slice m.c.t.a m.c.t.ks.length m.c.t.cap, .slice m.c.ea m.c.e.length m.c.ec, .slice m.sa m.s.length m.sc, .slice m.ha m.h.length m.hc] 48)) = w2 at *
  obtain ⟨BB, hBB⟩ : ∃ x, x = w.heap.size := ⟨_, rfl⟩
  obtain ⟨BN, hBN⟩ : ∃ x, x = (w.alloc (.cells #[.slice u.a u.ks.length u.cap] 39)).heap.size := ⟨_, rfl⟩
  rw [← hBB] at PB
  rw [← hBN] at AX
  simp only [World.size_alloc] at hBN
  rw [← hBB] at hBN
  rw [← hBB]
  first | rw [← hBN] | skip
  clear hBB hBN
  have k0 := PB.out.c
  have q0 := AX.out.1 0 _ rfl
  have q1 := AX.out.1 1 _ rfl
  have q2 := AX.out.1 2 _ rfl
  have q3 := AX.out.1 3 _ rfl
  have q4 := AX.out.1 4 _ rfl
  have q5 := AX.out.1 5 _ rfl
  have q6 := AX.out.1 6 _ rfl
  rw [Nat.add_zero] at q0
  go_wp2_with fail
  refine KV.out.mono ?_
  rintro e w3 ⟨rfl, g3⟩
  clear k0 q0 q1 q2 q3 q4 q5 q6
  have q5 := (AX.out.grow ndGr g3).1 5 _ rfl
  have KI := Lib.hid (impl_iv m.c w3 BN 0 (AX.out.grow ndGr g3).nc)
  have G3 := Lib.hid (G.out.trans g3)
  clear g3
  go_wp2_with fail
  refine KI.out.mono ?_
  rintro e w4 ⟨rfl, g4⟩
  clear q5 z1
  go_wp2_with fail
  go_ret
  exact ⟨ret_b F.out.symm, G3.out.trans g4⟩

end Go.Proofs.YtkpbiifikkbaeaaDoor.Con
