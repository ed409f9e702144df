/-
  Contracts of the program's shifted, validCopy and ShiftCore. Condition: the core term lies in memory, and the table of forms reads as the program's text lays it.
-/
import Derived.Test.YtfbgkbgoooepmaaDoorCoSb
import Derived.Test.YtfbgkbgoooepmaaDoorCoSg
import Derived.Test.YtfbgkbgoooepmaaDoorCoPr
import Derived.Test.YtfbgkbgoooepmaaDoorCoSize
namespace Go.Proofs.YtfbgkbgoooepmaaDoor.Con
open Go.RowKit
set_option linter.unusedVariables false

set_option maxRecDepth 100000 in
theorem impl_shifted (u : LK) (w : World) (b o : Nat) (n fr : Int) (h : coAt w b o u) (hok : okC u.co = true) (hn : 0 ≤ n ∧ n ≤ 1000) (hfr : 0 ≤ fr ∧ fr ≤ 255) : Calls Tryd.prog 74 #[.pointer (some ⟨b, o, none⟩), .int .i64 n, .int .i64 fr] w (SubP w u (u.co.sh n fr)) := by
  have gA : Gw w ((w.alloc (.cells #[.int .i64 n] 2)).alloc (.cells #[.int .i64 fr] 2)) := ((Gw.refl w).alloc _).alloc _
  have b1 := (((Gw.refl (w.alloc (.cells #[.int .i64 n] 2))).alloc (.cells #[.int .i64 fr] 2)).block w.heap.size (by simp)).trans (heap_alloc_new w (.cells #[.int .i64 n] 2))
  have b2 := heap_alloc_new (w.alloc (.cells #[.int .i64 n] 2)) (.cells #[.int .i64 fr] 2)
  rw [World.size_alloc] at b2
  have c1 := cell_of_row _ _ 0 _ _ _ b1
  have c2 := cell_of_row _ _ 0 _ _ _ b2
  have gd := okC_good hok
  have K := sb_all u _ b o 0 0 (w.heap.size + 1) w.heap.size n fr (h.grow gA) gd.1 (by have := gd.2.1; omega) (by have := gd.2.1; omega) hn hfr c2 c1
  rw [show fr + ((0 : Nat) : Int) = fr by omega] at K
  have KK := Lib.hid K
  have GA := Lib.hid gA
  clear h hok hn hfr gA b1 b2 c1 c2 gd K
  go_enter Tryd.func74, Tryd.ntmps74
  go_wp2_with fail
  refine KK.out.mono ?_
  rintro e w2 ⟨xb, xo, x, rfl, hx, hxc, hbl, g2, hge⟩
  have F := Lib.hid (show SubP w u (u.co.sh n fr) (.returned (.pointer (some ⟨xb, xo, none⟩))) w2 from ⟨xb, xo, x, rfl, hx, hxc, fun y hy => (hbl y hy).imp id (fun e => by have := GA.out.size; omega), GA.out.trans g2, by have := GA.out.size; omega⟩)
  clear hx hxc hbl g2 hge KK
  go_wp2_with fail
  go_ret
  exact F.out

def VcP (w : World) (t : Co) (e : Ending) (w' : World) : Prop := ∃ x : LK, e = .returned (.tuple #[x.val, .int .i64 (vcCd t)]) ∧ x.co = (if vcCd t = 0 then t else zeC) ∧ x.New w.heap.size w' ∧ Gw w w'
theorem by_fourR {w w2 : World} {R : Nat} (h : Gw w w2) (hR : w.heap.size ≤ R) {x0 x1 x2 x3 : Value} : Gw w ((((w2.setCell ⟨R, 0, none⟩ x0).setCell ⟨R, 1, none⟩ x1).setCell ⟨R, 2, none⟩ x2).setCell ⟨R, 3, none⟩ x3) :=
  (((Below.setCell h hR _).setCell hR _).setCell hR _).setCell hR _

set_option maxRecDepth 100000 in
set_option maxHeartbeats 1000000 in
theorem impl_validCopy (u : LK) (w : World) (b o : Nat) (h : coAt w b o u) (hT : KTbl w) : Calls Tryd.prog 73 #[.pointer (some ⟨b, o, none⟩)] w (VcP w u.co) := by
  have gR := (Gw.refl w).alloc (.cells #[.int .i64 0, .int .i64 0, .slice none 0 0, .slice none 0 0] 30)
  have hR := heap_alloc_new w (.cells #[.int .i64 0, .int .i64 0, .slice none 0 0, .slice none 0 0] 30)
  have A1 := Lib.hid (h.grow gR)
  have T1 := Lib.hid (hT.grow gR)
  have G1 := Lib.hid gR
  have HR := Lib.hid hR
  clear h hT gR hR
  go_enter Tryd.func73, Tryd.ntmps73
  go_upto_region 1 with (fail)
  generalize w.alloc (.cells #[.int .i64 0, .int .i64 0, .slice none 0 0, .slice none 0 0] 30) = w1 at *
  have HR1 := Lib.hid (Array.getElem?_eq_some_iff.1 HR.out).1
  have KS := Lib.hid (ka_size u w1 b o A1.out trivial)
  go_wp2_with fail
  refine KS.out.mono ?_
  rintro e w2 ⟨rfl, g2⟩
  have G2 := Lib.hid (G1.out.trans g2)
  have A2 := Lib.hid (A1.out.grow g2)
  have T2 := Lib.hid (T1.out.grow g2)
  have R2 := Lib.hid ((g2.block _ HR1.out).trans HR.out)
  have L2 := Lib.hid (Nat.lt_of_lt_of_le HR1.out g2.size)
  clear g2 KS
  by_cases hz : kaSz u.co = 0
  · have q : (kaSz u.co == 0) = true := by simpa using hz
    have C := Lib.hid (show vcCd u.co = 4 by unfold vcCd; rw [if_pos hz])
    obtain ⟨r0, r1, r2, r3, rf0, rf1, rf2, rf3⟩ := zero_at R2.out
    clear hz
    go_wp2_with fail
    refine bodyPost_ret (v := .tuple #[zeK.val, .int .i64 4]) (by simp [results, Tryd.results73, go_sem, r0, r1, r2, r3]; exact ⟨rfl, rfl, ⟨rfl, rfl, rfl⟩, rfl, rfl, rfl⟩) rfl ⟨zeK, by rw [C.out], by rw [C.out]; rfl, zeK_new _ _, by_fourR G2.out (Nat.le_refl _)⟩
  have q : (kaSz u.co == 0) = false := by simpa using hz
  have HZ := Lib.hid hz
  obtain ⟨p0, p1, p2, p3⟩ := A2.out.c
  have KV0 := impl_validCo u w2 A2.out.2 T2.out
  cases hok : okC u.co with
  | false =>
    rw [hok] at KV0
    have KV := Lib.hid KV0
    have C := Lib.hid (show vcCd u.co = 2 by unfold vcCd; rw [if_neg HZ.out, hok]; rfl)
    clear KV0 hz hok
    go_wp2_with fail
    refine KV.out.mono ?_
    rintro e w3 ⟨rfl, g3⟩
    have G3 := Lib.hid (G2.out.trans g3)
    have R3 := Lib.hid ((g3.block _ L2.out).trans R2.out)
    clear g3 KV p0 p1 p2 p3
    obtain ⟨r0, r1, r2, r3, rf0, rf1, rf2, rf3⟩ := zero_at R3.out
    go_wp2_with fail
    refine bodyPost_ret (v := .tuple #[zeK.val, .int .i64 2]) (by simp [results, Tryd.results73, go_sem, r0, r1, r2, r3]; exact ⟨rfl, rfl, ⟨rfl, rfl, rfl⟩, rfl, rfl, rfl⟩) rfl ⟨zeK, by rw [C.out], by rw [C.out]; rfl, zeK_new _ _, by_fourR G3.out (Nat.le_refl _)⟩
  | true =>
    rw [hok] at KV0
    have KV := Lib.hid KV0
    have HOK := Lib.hid hok
    have C := Lib.hid (show vcCd u.co = 0 by unfold vcCd; rw [if_neg HZ.out, if_pos hok])
    clear KV0 hz hok
    go_wp2_with fail
    refine KV.out.mono ?_
    rintro e w3 ⟨rfl, g3⟩
    have G3 := Lib.hid (G2.out.trans g3)
    have R3 := Lib.hid ((g3.block _ L2.out).trans R2.out)
    have L3 := Lib.hid (Nat.lt_of_lt_of_le L2.out g3.size)
    have KC := Lib.hid (cp_all u w3 b o (A2.out.grow g3) (okC_good HOK.out).1)
    clear g3 KV p0 p1 p2 p3
    go_wp2_with fail
    refine KC.out.mono ?_
    rintro e w4 ⟨x, rfl, hx, hnew, g4⟩
    have HX := Lib.hid hx
    have NX := Lib.hid hnew
    have G4 := Lib.hid (G3.out.trans g4)
    have R4 := Lib.hid ((g4.block _ L3.out).trans R3.out)
    clear hx hnew g4 KC
    obtain ⟨r0, r1, r2, r3, rf0, rf1, rf2, rf3⟩ := zero_at R4.out
    go_wp2_with fail
    refine bodyPost_ret (v := .tuple #[x.val, .int .i64 0]) (by simp [results, Tryd.results73, go_sem, r0, r1, r2, r3]) rfl ⟨x, by rw [C.out], by rw [if_pos C.out, HX.out], ?_, by_fourR G4.out (Nat.le_refl _)⟩
    refine (gNew.same coFr NX.out fun y hy => ?_).mono (Nat.le_of_lt L3.out)
    have := (NX.out.2.2 y hy).1
    have := L3.out
    rw [Below.heap_setCell _ _ _ _ (by simp; omega), Below.heap_setCell _ _ _ _ (by simp; omega), Below.heap_setCell _ _ _ _ (by simp; omega), Below.heap_setCell _ _ _ _ (by simp; omega)]

end Go.Proofs.YtfbgkbgoooepmaaDoor.Con
