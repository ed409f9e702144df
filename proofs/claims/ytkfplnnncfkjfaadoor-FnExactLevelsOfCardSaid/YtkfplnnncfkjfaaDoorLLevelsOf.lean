/-
  Proved: for every term and name the law FnExactLevelsOf returns true and leaves its arguments and the program's table nodeForms as they were. Condition: nodeForms reads as the program's text lays it, which the card ties to the text.
-/
import Derived.Test.YtkfplnnncfkjfaaDoorLvI
import Derived.Test.YtkfplnnncfkjfaaDoorTmMark
import Derived.Test.YtkfplnnncfkjfaaDoorTmSz
import Derived.Test.YtkfplnnncfkjfaaDoorTmTo
import Derived.Test.YtkfplnnncfkjfaaDoorTmEq
import Derived.Test.YtkfplnnncfkjfaaDoorTm
import Derived.Deep.RegionHeld3
import Derived.Deep.Cut
import Derived.Test.YtkfplnnncfkjfaaDoorCards
import Derived.Test.YtkfplnnncfkjfaaDoorTie
import Derived.LaidMore
import Derived.Lay
import Derived.SevenTiedAt
import Derived.Stop.Joined
namespace Go.Proofs.YtkfplnnncfkjfaaDoor.fnExactLevelsOf
open Go.ChangeShapes Go.WideShapes Go.ChangeAt Go.RowKit Con
set_option linter.unusedVariables false
open Go.ChangeMaps (open_string shut_string)
theorem own : ownKnob Tryd.prog.godebug = none := by kernel_rfl
theorem laidOut : laidOutB Tryd.prog = true := by kernel_rfl

set_option maxHeartbeats 4000000 in
theorem walk (w : World) (a0 : LM) (w0 : a0.Ok w) (a1 : ByteArray) (w1 : a1.size ≤ maxLen) (hT : laidMetH Tryd.prog Rows.fnExactLevelsOfRow.laid w) :
    Calls Tryd.prog 5 #[a0.val, .string a1] w fun e w' => e = .returned (.bool true) ∧ Gw w w' := by
  unfold maxLen at w1
  have hTb : Tbl w := tbl_of (by have h2 : laidMetH Tryd.prog Rows.fnExactLevelsOfRow.laid w := hT; rw [MakeChecks.laidMetH_plain _ _ _ (by kernel_rfl)] at h2; exact h2)
  have TB := Lib.hid hTb
  have O0 := Lib.hid w0
  have gW : Gw w (w.alloc (.cells #[.int .i64 a0.k, .int .i64 a0.m, .string a0.n, .int .i64 a0.t.k, .string a0.t.n, .slice a0.t.a a0.t.ks.length a0.t.cap, .slice a0.na a0.ns.length a0.nc, .slice a0.a a0.ks.length a0.cap] 42)) := (Gw.refl w).alloc _
  have BA := BoxM.new w a0 42
  clear hTb hT
  go_enter Tryd.func5, Tryd.ntmps5
  go_upto_region 1 with (fail)
  generalize (w.alloc (.cells #[.int .i64 a0.k, .int .i64 a0.m, .string a0.n, .int .i64 a0.t.k, .string a0.t.n, .slice a0.t.a a0.t.ks.length a0.t.cap, .slice a0.na a0.ns.length a0.nc, .slice a0.a a0.ks.length a0.cap] 42)) = wA at *
  by_cases hbig : 1048576 < (a1.size : Int)
  · go_wp2_with fail
    go_ret
    exact ⟨rfl, gW⟩
  obtain ⟨p0, p1, p2, p3, p4, p5, p6, p7⟩ := BA.c
  go_wp2_with fail
  refine (laws_szTerm a0 _ _ (O0.out.grow gW) (by omega) (by omega)).mono ?_
  rintro e wB ⟨he, gB⟩
  subst he
  replace BA := BA.grow gB
  replace gW := gW.trans gB
  clear p0 p1 p2 p3 p4 p5 p6 p7 gB
  by_cases hsA : 1048576 < a0.sz
  · have HS : szR 1048576 a0.sz = -1 := if_neg (by omega)
    rw [HS]
    go_wp2_with fail
    go_ret
    exact ⟨rfl, gW⟩
  have HS : szR 1048576 a0.sz = 1048576 - a0.sz := if_pos (by omega)
  rw [HS]
  have hp : ¬ ((1048576 : Int) - a0.sz < 0) := by omega
  have hz : a0.sz ≤ 1048576 := by omega
  clear HS hsA
  obtain ⟨p0, p1, p2, p3, p4, p5, p6, p7⟩ := BA.c
  go_wp2_with fail
  refine (laws_toTerm a0 _ (O0.out.grow gW) hz).mono ?_
  rintro e w2 ⟨x, rfl, hx, nx, g2⟩
  have HX := Lib.hid hx
  have NX := Lib.hid nx
  replace BA := BA.grow g2
  replace gW := gW.trans g2
  clear p0 p1 p2 p3 p4 p5 p6 p7 g2 hx nx hp
  go_wp2_with fail
  refine (spec_levelsOf x a1 (by omega) _ NX.out.1).mono ?_
  rw [HX.out]
  rintro e w3 ⟨v0, rfl, hr0, g3⟩
  obtain ⟨L, hL⟩ : ∃ L, L = lvT a1 a0.tm := ⟨_, rfl⟩
  rw [← hL] at hr0
  have h160 : L.length ≤ 160 := by rw [hL]; exact lvT_len _ _
  have HL := Lib.hid hL
  have SZ2 := Lib.hid (show w.heap.size ≤ w2.heap.size from gW.size)
  obtain ⟨av, cv, hv⟩ := hr0.form
  obtain ⟨n, hn⟩ : ∃ n, n = L.length := ⟨_, rfl⟩
  rw [← hn] at hv
  subst hv
  have R0 := Lib.hid hr0
  have R0A := Lib.hid hr0.at
  have HN := Lib.hid hn
  rw [← hn] at h160
  replace BA := BA.grow g3
  have BALT := Lib.hid BA.lt
  replace gW := gW.trans g3
  clear g3 NX HX hr0 hL hn
  obtain ⟨p0, p1, p2, p3, p4, p5, p6, p7⟩ := BA.c
  go_wp2_with fail
  refine (laws_toTerm a0 _ (O0.out.grow gW) hz).mono ?_
  rintro e w4 ⟨y, rfl, hy, ny, g4⟩
  have HY := Lib.hid hy
  have NY := Lib.hid ny
  have SZ3 := Lib.hid (show w.heap.size ≤ w3.heap.size from gW.size)
  have SZ34 := Lib.hid g4.size
  have R1 := Lib.hid (R0.out.grow g4)
  replace BA := BA.grow g4
  replace gW := gW.trans g4
  clear p0 p1 p2 p3 p4 p5 p6 p7 g4 hy
  have gA := (Gw.refl w4).alloc (.cells #[.int .i64 y.k, .int .i64 y.m, .string y.n, .int .i64 y.t.k, .string y.t.n, .slice y.t.a y.t.ks.length y.t.cap, .slice y.na y.ns.length y.nc, .slice y.a y.ks.length y.cap] 50)
  have OY := Lib.hid (ny.1.grow gA)
  have NY4 := Lib.hid (gNew.grow tmGr ny gA)
  have R2 := Lib.hid (R1.out.grow gA)
  have BY := BoxM.new w4 y 50
  have YLT := Lib.hid (show ∀ b ∈ y.bl, b < w4.heap.size from fun b hb => (ny.2.2 b hb).2.lt)
  have YGE := Lib.hid (show ∀ b ∈ y.bl, w3.heap.size ≤ b from fun b hb => (ny.2.2 b hb).1)
  have SZ4 := Lib.hid gA.size
  replace BA := BA.grow gA
  replace gW := gW.trans gA
  clear ny gA
  go_upto_region 9 with (fail)
  generalize w4.alloc (.cells #[.int .i64 y.k, .int .i64 y.m, .string y.n, .int .i64 y.t.k, .string y.t.n, .slice y.t.a y.t.ks.length y.t.cap, .slice y.na y.ns.length y.nc, .slice y.a y.ks.length y.cap] 50) = W4 at *
  obtain ⟨q0, q1, q2, q3, q4, q5, q6, q7⟩ := BY.c
  go_wp2_with fail
  refine (impl_levelsOf y a1 (by omega) _ OY.out (TB.out.grow gW)).mono ?_
  rw [HY.out]
  rintro e w5 ⟨v1, rfl, hr1, g5⟩
  rw [← HL.out] at hr1
  obtain ⟨ag, cg, hv⟩ := hr1.form
  rw [← HN.out] at hv
  subst hv
  have RG := Lib.hid hr1
  have R5 := Lib.hid (R2.out.grow g5)
  replace BA := BA.grow g5
  replace BY := BY.grow g5
  replace gW := gW.trans g5
  have G5 := Lib.hid g5
  clear q0 q1 q2 q3 q4 q5 q6 q7 g5 hr1
  go_wp2_with fail
  refine (laws_eqI L _ _ _ ag av n cg cv RG.out R5.out).mono ?_
  rintro e w6 ⟨rfl, g6⟩
  replace RG := Lib.hid (RG.out.grow g6)
  replace R5 := Lib.hid (R5.out.grow g6)
  replace BA := BA.grow g6
  replace BY := BY.grow g6
  replace gW := gW.trans g6
  replace G5 := Lib.hid (G5.out.trans g6)
  clear g6
  go_upto_region 12 with (fail)
  obtain ⟨p0, p1, p2, p3, p4, p5, p6, p7⟩ := BA.c
  obtain ⟨q0, q1, q2, q3, q4, q5, q6, q7⟩ := BY.c
  have lA := BA.lt
  have lX := BY.lt
  have OY6 := Lib.hid (OY.out.grow G5.out)
  go_region_held3 (fun W => W.cell? ⟨w4.heap.size, 0, none⟩ = some (.int .i64 y.k) ∧ W.cell? ⟨w4.heap.size, 1, none⟩ = some (.int .i64 y.m) ∧ W.cell? ⟨w4.heap.size, 2, none⟩ = some (.string y.n) ∧ W.cell? ⟨w4.heap.size, 3, none⟩ = some (.int .i64 y.t.k) ∧ W.cell? ⟨w4.heap.size, 4, none⟩ = some (.string y.t.n) ∧ W.cell? ⟨w4.heap.size, 5, none⟩ = some (.slice y.t.a y.t.ks.length y.t.cap) ∧ W.cell? ⟨w4.heap.size, 6, none⟩ = some (.slice y.na y.ns.length y.nc) ∧ W.cell? ⟨w4.heap.size, 7, none⟩ = some (.slice y.a y.ks.length y.cap) ∧ W.cell? ⟨w.heap.size, 0, none⟩ = some (.int .i64 a0.k) ∧ W.cell? ⟨w.heap.size, 1, none⟩ = some (.int .i64 a0.m) ∧ W.cell? ⟨w.heap.size, 2, none⟩ = some (.string a0.n) ∧ W.cell? ⟨w.heap.size, 3, none⟩ = some (.int .i64 a0.t.k) ∧ W.cell? ⟨w.heap.size, 4, none⟩ = some (.string a0.t.n) ∧ W.cell? ⟨w.heap.size, 5, none⟩ = some (.slice a0.t.a a0.t.ks.length a0.t.cap) ∧ W.cell? ⟨w.heap.size, 6, none⟩ = some (.slice a0.na a0.ns.length a0.nc) ∧ W.cell? ⟨w.heap.size, 7, none⟩ = some (.slice a0.a a0.ks.length a0.cap))
    (first | exact ⟨q0, q1, q2, q3, q4, q5, q6, q7, p0, p1, p2, p3, p4, p5, p6, p7⟩ | exact ⟨(k6 _ _ lX).trans q0, (k6 _ _ lX).trans q1, (k6 _ _ lX).trans q2, (k6 _ _ lX).trans q3, (k6 _ _ lX).trans q4, (k6 _ _ lX).trans q5, (k6 _ _ lX).trans q6, (k6 _ _ lX).trans q7, (k6 _ _ lA).trans p0, (k6 _ _ lA).trans p1, (k6 _ _ lA).trans p2, (k6 _ _ lA).trans p3, (k6 _ _ lA).trans p4, (k6 _ _ lA).trans p5, (k6 _ _ lA).trans p6, (k6 _ _ lA).trans p7⟩ | exact ⟨(k7 _ _ lX).trans q0, (k7 _ _ lX).trans q1, (k7 _ _ lX).trans q2, (k7 _ _ lX).trans q3, (k7 _ _ lX).trans q4, (k7 _ _ lX).trans q5, (k7 _ _ lX).trans q6, (k7 _ _ lX).trans q7, (k7 _ _ lA).trans p0, (k7 _ _ lA).trans p1, (k7 _ _ lA).trans p2, (k7 _ _ lA).trans p3, (k7 _ _ lA).trans p4, (k7 _ _ lA).trans p5, (k7 _ _ lA).trans p6, (k7 _ _ lA).trans p7⟩)
    (first
      | (go_at_call 14; refine (laws_toTerm a0 _ (by exact (O0.out.grow gW).drew) hz).mono ?_; rintro e w7 ⟨z, rfl, hz', nz, g7⟩; have HZ := Lib.hid hz'; clear hz'; have k6 : ∀ b o, b < w6.heap.size → w7.cell? ⟨b, o, none⟩ = w6.cell? ⟨b, o, none⟩ := fun b o h => (bcell g7).1 b o h)
      | (go_at_call 16; refine (laws_eqTerm y z _ (by exact OY6.out.drew.grow g7) nz.1 (by rw [HY.out, HZ.out])).mono ?_; rintro e w8 ⟨rfl, g8⟩; have k7 : ∀ b o, b < w6.heap.size → w8.cell? ⟨b, o, none⟩ = w6.cell? ⟨b, o, none⟩ := fun b o h => ((bcell g8).1 b o (Nat.lt_of_lt_of_le h g7.size)).trans (k6 b o h)))
  have G68 := Lib.hid (show Gw w6 w8 from ((Gw.refl w6).drew.trans g7).trans g8)
  have BA8 := Lib.hid (BA.grow G68.out)
  have BY8 := Lib.hid (BY.grow G68.out)
  have R8 := Lib.hid (R5.out.grow G68.out)
  have RG8 := Lib.hid (RG.out.grow G68.out)
  have GW8 := Lib.hid (gW.trans G68.out)
  have NY8 := Lib.hid (gNew.grow tmGr NY4.out (G5.out.trans G68.out))
  have SZ8 := Lib.hid (show W4.heap.size ≤ w8.heap.size from (G5.out.trans G68.out).size)
  have MK := Lib.hid (mkn_small HY.out hz)
  clear p0 p1 p2 p3 p4 p5 p6 p7 q0 q1 q2 q3 q4 q5 q6 q7 lA lX k6 k7 g7 g8 gW BA BY HZ nz
  obtain ⟨q0, q1, q2, q3, q4, q5, q6, q7⟩ := BY8.out.c
  have KM := Lib.hid (laws_markTm y w3.heap.size w8 1 NY8.out (by omega) MK.out)
  obtain ⟨K, hK⟩ : ∃ K, K = 1 + y.mkn := ⟨_, rfl⟩
  rw [← hK] at KM
  have hK0 : K ≤ 8000000 := by rw [hK]; exact MK.out
  clear hK
  go_wp2_with fail
  refine KM.out.mono ?_
  rintro e w9 ⟨rfl, hc9⟩
  have R9 := Lib.hid (R8.out.chg hc9 (fun g hg hm => by have h1 := YGE.out g hm; have h2 := (R0A.out g hg).2; omega))
  have RG9 := Lib.hid (RG8.out.chg hc9 (fun g hg hm => by have h1 := YLT.out g hm; have h2 := (RG8.out.at g hg).1; have := SZ4.out; omega))
  have GW9 := Lib.hid (show Gw w w9 from Below.trans GW8.out (hc9.gw (B := w.heap.size) GW8.out.size fun b hb hm => by have := YGE.out b hm; have := SZ3.out; omega))
  have BA9 := Lib.hid (BA8.out.same (hc9.2.2.2.2 _ BA8.out.lt (fun hm => by have := YGE.out _ hm; have := BALT.out; omega)))
  have SZ9 := Lib.hid (show W4.heap.size ≤ w9.heap.size from Nat.le_trans SZ8.out hc9.2.2.2.1)
  clear q0 q1 q2 q3 q4 q5 q6 q7 KM hc9
  have hk0 : decide ((K : Int) < 0) = false := decide_eq_false (by omega)
  go_wp2_with fail
  refine (laws_eqI L _ _ _ ag av n cg cv RG9.out R9.out).mono ?_
  rintro e w10 ⟨rfl, g10⟩
  have RG10 := Lib.hid (RG9.out.grow g10)
  have R10 := Lib.hid (R9.out.grow g10)
  have GW10 := Lib.hid (GW9.out.trans g10)
  have BA10 := Lib.hid (BA9.out.grow g10)
  clear g10 hk0
  have KEY := Lib.hid (laws_markI L W4.heap.size w10 ag n cg 1 RG10.out (by have := HN.out; omega) (by omega))
  go_wp2_with fail
  refine KEY.out.mono ?_
  rintro e w11 ⟨rfl, hr11, hb11⟩
  have RG11 := Lib.hid hr11
  have R11 := Lib.hid (R10.out.chg (S := fun b => W4.heap.size ≤ b) ⟨hb11.os, hb11.tape, hb11.output, hb11.size, fun b _ hn => hb11.block b (by omega)⟩ (fun g hg hm => by have h2 := (R0A.out g hg).2; have := SZ34.out; have := SZ4.out; omega))
  have GW11 := Lib.hid (show Gw w w11 from Below.trans GW10.out (hb11.mono (Nat.le_trans SZ3.out (Nat.le_trans SZ34.out SZ4.out))))
  have BA11 := Lib.hid (BA10.out.same (hb11.block _ (Nat.lt_of_lt_of_le BALT.out (Nat.le_trans SZ34.out SZ4.out))))
  clear KEY hr11 hb11
  obtain ⟨M, hM⟩ : ∃ M, M = iMk 1 L n := ⟨_, rfl⟩
  rw [← hM] at RG11
  have HM := Lib.hid (show ∀ i, i < n → M[i]? = some ((1 + i : Nat) : Int) from fun i hi => by rw [hM]; exact iMk_get 1 L n i hi (by have := HN.out; omega))
  have KEY := Lib.hid (laws_heldI M _ w11 ag n cg 1 RG11.out (by omega) (by omega) HM.out)
  clear hM
  go_wp2_with fail
  refine KEY.out.mono ?_
  rintro e w12 ⟨rfl, g12⟩
  have RG12 := Lib.hid (RG11.out.grow g12)
  have R12 := Lib.hid (R11.out.grow g12)
  have GW12 := Lib.hid (GW11.out.trans g12)
  have BA12 := Lib.hid (BA11.out.grow g12)
  clear KEY g12
  have hq : decide ((1 : Int) + n < 0) = false := decide_eq_false (by omega)
  have hq2 : ((1 : Int) + n != (1 : Int) + n) = false := by simp
  obtain ⟨p0, p1, p2, p3, p4, p5, p6, p7⟩ := BA12.out.c
  go_wp2_with fail
  refine (laws_toTerm a0 _ (O0.out.grow GW12.out) hz).mono ?_
  rintro e w13 ⟨z2, rfl, hz2, nz2, g13⟩
  have HZ2 := Lib.hid hz2
  have OZ2 := Lib.hid nz2.1
  have RG13 := Lib.hid (RG12.out.grow g13)
  have R13 := Lib.hid (R12.out.grow g13)
  have GW13 := Lib.hid (GW12.out.trans g13)
  clear p0 p1 p2 p3 p4 p5 p6 p7 g13 hz2 nz2 hq hq2
  go_wp2_with fail
  refine (impl_levelsOf z2 a1 (by omega) _ OZ2.out (TB.out.grow GW13.out)).mono ?_
  rw [HZ2.out]
  rintro e w14 ⟨v2, rfl, hr2, g14⟩
  rw [← HL.out] at hr2
  obtain ⟨ah, ch, hv⟩ := hr2.form
  rw [← HN.out] at hv
  subst hv
  have RH := Lib.hid hr2
  have RG14 := Lib.hid (RG13.out.grow g14)
  have R14 := Lib.hid (R13.out.grow g14)
  have GW14 := Lib.hid (GW13.out.trans g14)
  clear g14 hr2
  go_wp2_with fail
  refine (laws_eqI L _ _ _ ah av n ch cv RH.out R14.out).mono ?_
  rintro e w15 ⟨rfl, g15⟩
  have RG15 := Lib.hid (RG14.out.grow g15)
  have GW15 := Lib.hid (GW14.out.trans g15)
  clear g15
  have KEY := Lib.hid (laws_heldI M _ w15 ag n cg 1 RG15.out (by omega) (by omega) HM.out)
  go_wp2_with fail
  refine KEY.out.mono ?_
  rintro e w16 ⟨rfl, g16⟩
  have GW16 := Lib.hid (GW15.out.trans g16)
  clear KEY g16
  have hq : decide ((1 : Int) + n < 0) = false := decide_eq_false (by omega)
  have hq2 : ((1 : Int) + n != (1 : Int) + n) = false := by simp
  go_wp2_with fail
  go_ret
  exact ⟨rfl, GW16.out⟩

set_option maxRecDepth 100000 in
theorem lifted (os : Os) (started : os.Started) (H : Type) (enc : TypeId × Value → H) :
    ReturnsInHanded {} Tryd.checked os 5 .any (fun w args => (Rows.fnExactLevelsOfSpec.pre enc Tryd.prog Tryd.f5 Rows.fnExactLevelsOfRow.domain false w args ∧ laidMetH Tryd.prog Rows.fnExactLevelsOfRow.laid w) ∧ sizedMet enc Tryd.prog Tryd.f5 (OpenSpec.ofChange Rows.fnExactLevelsOfSpec) false w args)
      (Rows.fnExactLevelsOfSpec.post enc Tryd.prog Tryd.f5 false true false false) := by
  refine returnsInHanded_of_change_and (C := Tryd.checked) (X := fun w _ => laidMetH Tryd.prog Rows.fnExactLevelsOfRow.laid w) (fun _ _ _ hh h => h.of_heap hh) own started (by kernel_rfl) Tryd.func5
    (ChangeSpec.witness_shaped (enc := enc) (C := Tryd.checked) (os := os) (X := fun w _ => laidMetH Tryd.prog Rows.fnExactLevelsOfRow.laid w) false (World.laidAll Tryd.prog os Rows.fnExactLevelsOfRow.laid) #[.agg #[.int .i64 0, .int .i64 0, .string ⟨#[]⟩, .int .i64 0, .string ⟨#[]⟩, .slice none 0 0, .slice none 0 0, .slice none 0 0], .string ⟨#[]⟩] 8 (World.laidAll_os _ _ _)
      (World.shaped_of_ZipB (by kernel_rfl) (by kernel_rfl)) (by kernel_rfl) (by kernel_rfl) (by kernel_rfl)
      (by rw [MakeChecks.laidMetH_plain _ _ _ (by kernel_rfl)]; exact laidMet_laidAll _ (by kernel_rfl) (by kernel_rfl))) ?_
  intro W base args ds gs before hval0 hW _ _ hT _
  have hval : ∀ (j : Nat) t v, Tryd.f5.params[j]? = some t → args[j]? = some v → Value.okWide Tryd.prog W .any base t v := hval0
  have hW' := hW
  obtain ⟨p, q, hA0, hV0, rfl, hfz, hnd⟩ := hW
  have hA : DataW.TrodAll enc Tryd.prog W 0 (fun _ => true) true Tryd.f5.params.toList args.toList ds p := hA0
  rw [Tryd.params5] at hA hval
  obtain ⟨v0, vs0, d0, ds0, p0, q0, hargs, rfl, rfl, h0, r0⟩ := trodAll_cons hA
  obtain ⟨v1, vs1, d1, ds1, p1, q1, rfl, rfl, rfl, h1, r1⟩ := trodAll_cons r0
  obtain ⟨rfl, rfl, rfl⟩ := trodAll_nil r1
  obtain rfl : args = #[v0, v1] := by cases args; simp_all
  obtain ⟨a0, rfl, w0⟩ := open_term (hval 0 42 v0 rfl rfl) h0
  obtain ⟨a1, rfl, rfl, rfl, w1⟩ := open_string Tryd.underlying9 (hval 1 9 v1 rfl rfl) h1
  obtain ⟨g0, rfl⟩ : ∃ g0, gs = [g0] := by
    obtain ⟨g, t, cs, fuel, d, p', rfl, _⟩ := trodVars_one hV0
    exact ⟨d, rfl⟩
  refine (walk W a0 w0 a1 w1 hT).mono fun e W' ⟨he, hg⟩ => ?_
  subst he
  exact ⟨_, rfl, post_law laidOut (by kernel_rfl) (by kernel_rfl) rfl Tryd.underlying4 hW' hg rfl⟩

theorem holds : Rows.FnExactLevelsOfSaid :=
  OpenClaim.holds_of_wide 5 Tryd.f5 rfl rfl rfl rfl rfl rfl rfl ⟨rfl, rfl, rfl, rfl, rfl⟩ rfl rfl rfl rfl rfl (by kernel_rfl) Tryd.func5 (by kernel_rfl)
    (of_decide_eq_true (by kernel_rfl)) (by unfold Func.isWrapper; first | (rw [if_pos (by decide +kernel)]; kernel_rfl) | (rw [if_neg (by decide +kernel)]; exact ⟨rfl, rfl⟩))
    (fun os started H enc _ => lifted os started H enc)

/-- The given statement: the tied card. -/
theorem proved : Rows.FnExactLevelsOfCardSaid :=
  Claim7.holds_tied_plain_at .later [] [.data] true Rows.fnExactLevelsOfCard.stood.harness true holds (fun _ h => by cases h) (by kernel_rfl) (fun _ h => by cases h) fnExactLevelsOf_row_tie rfl ⟨rfl, rfl⟩ (by kernel_rfl) rfl
    (fun f fn hf hfn => by
      obtain rfl : f = 5 := Option.some.inj ((show Tryd.prog.funcNamed Rows.fnExactLevelsOfRow.func = some 5 by kernel_rfl).symm.trans hf) |>.symm
      obtain rfl : fn = Tryd.f5 := (Option.some.inj (Tryd.func5.symm.trans hfn)).symm
      exact ⟨by kernel_rfl, fun j t ht => by
        rw [Tryd.params5] at ht
        have hm : t ∈ [42, 9] := by simpa using Array.mem_of_getElem? ht
        have hall : ([42, 9].all fun u => !Tryd.prog.wantsStandIn u) = true := by kernel_rfl
        exact (show Tryd.prog.wantsStandIn t = false by simpa using List.all_eq_true.1 hall t hm)⟩)
    (by kernel_rfl)
#print axioms proved
end Go.Proofs.YtkfplnnncfkjfaaDoor.fnExactLevelsOf
