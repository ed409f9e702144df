/-
  Contract of the program's InstantiateCore. Condition: the core terms lie in memory, and the table of forms reads as the program's text lays it.
-/
import Derived.Test.YtfbgkbgoooepmaaDoorCoIn
import Derived.Test.YtfbgkbgoooepmaaDoorCoIm
namespace Go.Proofs.YtfbgkbgoooepmaaDoor.Con
open Go.RowKit
set_option linter.unusedVariables false

set_option maxRecDepth 100000 in
set_option maxHeartbeats 1000000 in
theorem impl_instCo (u a : LK) (w : World) (h : u.Ok w) (ha : a.Ok w) (hT : KTbl w) : Calls Tryd.prog 40 #[u.val, a.val] w (CdP w (inCd u.co a.co) (u.co.pu a.co 0)) := by
  have gA : Gw w ((w.alloc (u.obj 30)).alloc (a.obj 30)) := ((Gw.refl w).alloc _).alloc _
  have hA : coAt ((w.alloc (u.obj 30)).alloc (a.obj 30)) w.heap.size 0 u := (coAt.new (e := 30) h).grow ((Gw.refl _).alloc _)
  have hB := coAt.new (e := 30) (ha.grow ((Gw.refl w).alloc (u.obj 30)))
  rw [World.size_alloc] at hB
  have gZ := (Gw.refl ((w.alloc (u.obj 30)).alloc (a.obj 30))).alloc (.cells #[.int .i64 0, .int .i64 0, .slice none 0 0, .slice none 0 0] 30)
  have hR := heap_alloc_new ((w.alloc (u.obj 30)).alloc (a.obj 30)) (.cells #[.int .i64 0, .int .i64 0, .slice none 0 0, .slice none 0 0] 30)
  rw [World.size_alloc, World.size_alloc] at hR
  have HA := Lib.hid (hA.grow gZ)
  have HB := Lib.hid (hB.grow gZ)
  have G := Lib.hid (gA.trans gZ)
  have HR := Lib.hid hR
  have T1 := Lib.hid (hT.grow (gA.trans gZ))
  clear h ha hA hB gA gZ hR hT
  go_enter Tryd.func40, Tryd.ntmps40
  go_upto_region 1 with (fail)
  generalize (((w.alloc (.cells #[.int .i64 u.k, .int .i64 u.v, .slice u.da u.ds.length u.dc, .slice u.a u.ks.length u.cap] 30)).alloc (.cells #[.int .i64 a.k, .int .i64 a.v, .slice a.da a.ds.length a.dc, .slice a.a a.ks.length a.cap] 30)).alloc (.cells #[.int .i64 0, .int .i64 0, .slice none 0 0, .slice none 0 0] 30)) = w1 at *
  have KO := impl_validCo u w1 HA.out.2 T1.out
  obtain ⟨p0, p1, p2, p3⟩ := HA.out.c
  simp only [Nat.zero_add] at p1 p2 p3
  cases hok : okC u.co with
  | false =>
    rw [hok] at KO
    have KOO := Lib.hid KO
    have C := Lib.hid (show inCd u.co a.co = 1 by unfold inCd; rw [hok]; rfl)
    clear KO hok
    go_wp2_with fail
    refine KOO.out.mono ?_
    rintro e w2 ⟨rfl, g2⟩
    have R2 := Lib.hid ((g2.block _ (Array.getElem?_eq_some_iff.1 HR.out).1).trans HR.out)
    have G2 := Lib.hid (G.out.trans g2)
    clear g2 KOO p0 p1 p2 p3
    obtain ⟨r0, r1, r2, r3, rf0, rf1, rf2, rf3⟩ := zero_atP R2.out
    go_wp2_with fail
    refine bodyPost_ret (v := .tuple #[zeK.val, .int .i64 1]) (by simp [results, Tryd.results40, go_sem, r0, r1, r2, r3]; exact ⟨rfl, rfl, ⟨rfl, rfl, rfl⟩, rfl, rfl, rfl⟩) rfl ⟨zeK, by rw [C.out], by rw [C.out]; rfl, zeK_new _ _, by_fourN (n := 2) G2.out⟩
  | true =>
  rw [hok] at KO
  have KOO := Lib.hid KO
  have HOK := Lib.hid hok
  clear KO hok
  go_wp2_with fail
  refine KOO.out.mono ?_
  rintro e w2 ⟨rfl, g2⟩
  have R2 := Lib.hid ((g2.block _ (Array.getElem?_eq_some_iff.1 HR.out).1).trans HR.out)
  have G2 := Lib.hid (G.out.trans g2)
  have A2 := Lib.hid (HA.out.grow g2)
  have B2 := Lib.hid (HB.out.grow g2)
  have T2 := Lib.hid (T1.out.grow g2)
  clear g2 KOO p0 p1 p2 p3
  have KO := impl_validCo a w2 B2.out.2 T2.out
  obtain ⟨p0, p1, p2, p3⟩ := B2.out.c
  simp only [Nat.zero_add] at p1 p2 p3
  cases hok : okC a.co with
  | false =>
    rw [hok] at KO
    have KOO := Lib.hid KO
    have C := Lib.hid (show inCd u.co a.co = 1 by unfold inCd; rw [HOK.out, hok]; rfl)
    clear KO hok
    go_wp2_with fail
    refine KOO.out.mono ?_
    rintro e w3 ⟨rfl, g3⟩
    have R3 := Lib.hid ((g3.block _ (Array.getElem?_eq_some_iff.1 R2.out).1).trans R2.out)
    have G3 := Lib.hid (G2.out.trans g3)
    clear g3 KOO p0 p1 p2 p3
    obtain ⟨r0, r1, r2, r3, rf0, rf1, rf2, rf3⟩ := zero_atP R3.out
    go_wp2_with fail
    refine bodyPost_ret (v := .tuple #[zeK.val, .int .i64 1]) (by simp [results, Tryd.results40, go_sem, r0, r1, r2, r3]; exact ⟨rfl, rfl, ⟨rfl, rfl, rfl⟩, rfl, rfl, rfl⟩) rfl ⟨zeK, by rw [C.out], by rw [C.out]; rfl, zeK_new _ _, by_fourN (n := 2) G3.out⟩
  | true =>
  rw [hok] at KO
  have KOO := Lib.hid KO
  have C := Lib.hid (inCd_in HOK.out hok)
  have HOKA := Lib.hid hok
  clear KO hok
  go_wp2_with fail
  refine KOO.out.mono ?_
  rintro e w3 ⟨rfl, g3⟩
  have R3 := Lib.hid ((g3.block _ (Array.getElem?_eq_some_iff.1 R2.out).1).trans R2.out)
  have G3 := Lib.hid (G2.out.trans g3)
  have T3 := Lib.hid (T2.out.grow g3)
  have LR := Lib.hid (Array.getElem?_eq_some_iff.1 R3.out).1
  have KI := Lib.hid (impl_instantiated u a w3 _ _ _ _ (A2.out.grow g3) (B2.out.grow g3) HOK.out HOKA.out)
  clear g3 KOO p0 p1 p2 p3
  go_wp2_with fail
  refine KI.out.mono ?_
  rintro e w4 ⟨xb, xo, x, rfl, hx, hxc, g4⟩
  have KC := impl_validCopy x w4 xb xo hx (T3.out.grow g4)
  rw [hxc] at KC
  have KCC := Lib.hid KC
  have G4 := Lib.hid (G3.out.trans g4)
  have R4 := Lib.hid ((g4.block _ LR.out).trans R3.out)
  have L4 := Lib.hid (Nat.lt_of_lt_of_le LR.out g4.size)
  clear hx hxc g4 KI KC
  go_wp2_with fail
  refine KCC.out.mono ?_
  rintro e w5 ⟨y, rfl, hy, hnew, g5⟩
  have HY := Lib.hid hy
  have NY := Lib.hid hnew
  have R5 := Lib.hid ((g5.block _ L4.out).trans R4.out)
  have G5 := Lib.hid (G4.out.trans g5)
  clear hy hnew g5 KCC
  obtain ⟨r0, r1, r2, r3, rf0, rf1, rf2, rf3⟩ := zero_atP R5.out
  go_wp2_with fail
  refine bodyPost_ret (v := .tuple #[y.val, .int .i64 (vcCd (u.co.pu a.co 0))]) (by simp [results, Tryd.results40, go_sem, r0, r1, r2, r3]) rfl ⟨y, by rw [C.out], by rw [C.out, HY.out], ?_, by_fourN (n := 2) G5.out⟩
  refine (gNew.same coFr NY.out fun z hz => ?_).mono (by have := L4.out; omega)
  have := (NY.out.2.2 z hz).1
  have := L4.out
  rw [Below.heap_setCell _ _ _ _ (by simp; omega), Below.heap_setCell _ _ _ _ (by simp; omega), Below.heap_setCell _ _ _ _ (by simp; omega), Below.heap_setCell _ _ _ _ (by simp; omega)]

end Go.Proofs.YtfbgkbgoooepmaaDoor.Con
