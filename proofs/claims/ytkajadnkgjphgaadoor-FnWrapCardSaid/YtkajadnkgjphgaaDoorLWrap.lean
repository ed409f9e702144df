/-
  Proved: for all bytes the law FnWrap returns true and leaves its arguments and the program's table operatorTexts as they were. Condition: operatorTexts reads as the program's text lays it, which the card ties to the text.
-/
import Derived.Test.YtkajadnkgjphgaaDoorTab
import Derived.Test.YtkajadnkgjphgaaDoorSrc
import Derived.Test.YtkajadnkgjphgaaDoorMax
import Derived.Test.YtkajadnkgjphgaaDoorLong
import Derived.Test.YtkajadnkgjphgaaDoorCards
import Derived.Test.YtkajadnkgjphgaaDoorTie
import Derived.LaidMore
import Derived.Lay
import Derived.SevenTiedAt
import Derived.Stop.Joined
namespace Go.Proofs.YtkajadnkgjphgaaDoor.fnWrap
open Go.ChangeShapes Go.WideShapes Go.ChangeAt Go.RowKit Con
set_option linter.unusedVariables false
theorem own : ownKnob Tryd.prog.godebug = none := by kernel_rfl
theorem laidOut : laidOutB Tryd.prog = true := by kernel_rfl

set_option maxHeartbeats 4000000 in
theorem walk (w : World) (b0 : Value) (z0 : List Int) (w0 : RdBytes w b0 z0) (b1 : Value) (z1 : List Int) (w1 : RdBytes w b1 z1) (hT : laidMetH Tryd.prog Rows.fnWrapRow.laid w) :
    Calls Tryd.prog 7 #[b0, b1] w fun e w' => e = .returned (.bool true) ∧ Gw w w' := by
  have hP : laidMet Tryd.prog [("loop.example/g01074/impl.operatorTexts", .agg (opsL.map fun l => .lit (.string l)))] w := by
    have h2 : laidMetH Tryd.prog Rows.fnWrapRow.laid w := hT
    rw [MakeChecks.laidMetH_plain _ _ _ (by kernel_rfl)] at h2
    exact h2
  have hC : ∀ i, i < 7 → w.cell? ⟨1, i, none⟩ = some (.string (opAt i)) ∧ 1 < w.heap.size := fun i hi =>
    strs_cell (t := 38) (e := 9) (by kernel_rfl) (by kernel_rfl) Tryd.underlying38 Tryd.underlying9 (by kernel_rfl) hP i hi
  have HC := Lib.hid hC
  clear hC hP hT
  go_enter Tryd.func7, Tryd.ntmps7
  go_wp2_with fail
  refine (law_long _ _ _ _ _ w0 w1).mono ?_
  rintro e w' ⟨⟨r, rfl⟩, rfl⟩
  cases r with
  | true =>
    go_wp2_with fail
    go_ret
    exact ⟨rfl, Gw.refl _⟩
  | false =>
    go_wp2_with fail
    refine (draw_operate _ _ _ w0).mono ?_
    rintro e w2 ⟨⟨op, a, b, o0, o1, ha, hb, rfl⟩, g2⟩
    go_wp2_with fail
    refine (draw_operate _ _ _ (w1.grow g2)).mono ?_
    rintro e w3 ⟨⟨op2, c, d, p0, p1, hc, hd, rfl⟩, g3⟩
    clear w0 w1
    go_wp2_with fail
    refine (spec_wrap32 _ _).mono ?_
    rintro e w' ⟨rfl, rfl⟩
    go_wp2_with fail
    refine (spec_wrap32 _ _).mono ?_
    rintro e w' ⟨rfl, rfl⟩
    have rx := r32_wrap a
    have ry := r32_wrap b
    generalize wrap32 a = x at rx
    generalize wrap32 b = y at ry
    have G3 := Lib.hid (g2.trans g3)
    clear g2 g3
    unfold in64 at hc hd
    have Fa := Lib.hid (sub_add rx ry)
    have Fc := Lib.hid (wrap_mult (c := c) rx)
    have Fm := Lib.hid (mul_comm' x y)
    obtain ⟨rx0, rx1⟩ := rx
    obtain ⟨ry0, ry1⟩ := ry
    obtain ⟨c0, c1⟩ := hc
    obtain ⟨d0, d1⟩ := hd
    go_wp2_with fail
    refine (impl_operate 1 x y _).mono ?_
    rintro e w4 ⟨rfl, g4⟩
    go_wp2_with fail
    refine (impl_operate 2 _ y _).mono ?_
    rintro e w5 ⟨rfl, g5⟩
    rw [Fa.out]
    go_wp2_with fail
    refine (impl_wrap32 _ _).mono ?_
    rintro e w' ⟨rfl, rfl⟩
    rw [Fc.out]
    go_wp2_with fail
    refine (impl_operate 3 x y _).mono ?_
    rintro e w6 ⟨rfl, g6⟩
    go_wp2_with fail
    refine (impl_operate 3 y x _).mono ?_
    rintro e w7 ⟨rfl, g7⟩
    rw [Fm.out]
    go_wp2_with fail
    refine (impl_operate 4 x y _).mono ?_
    rintro e w8 ⟨rfl, g8⟩
    go_wp2_with fail
    refine (impl_operate 3 _ y _).mono ?_
    rintro e w9 ⟨rfl, g9⟩
    go_wp2_with fail
    refine (impl_operate 2 x _ _).mono ?_
    rintro e w10 ⟨rfl, g10⟩
    have G10 := Lib.hid ((G3.out.trans (g4.trans (g5.trans (g6.trans (g7.trans (g8.trans (g9.trans g10))))))))
    clear g4 g5 g6 g7 g8 g9 g10 Fa Fc Fm G3
    have rx : r32 x := ⟨rx0, rx1⟩
    have ry : r32 y := ⟨ry0, ry1⟩
    have H1 := Lib.hid (one_of rx ry)
    have H2 := Lib.hid (less_one rx ry)
    have H3 := Lib.hid (add_comm' c d)
    have H4 := Lib.hid (rem_is rx ry)
    have H5 := Lib.hid (rem_zero rx)
    have L1 := opV_r32 5 x y
    have L2 := opV_r32 5 y x
    have L3 := opV_r32 6 x y
    have Q := opV_r32 4 x y
    have RR := opV_r32 2 x (opV 3 (opV 4 x y) y)
    clear rx ry
    by_cases hy : y = 0
    · subst hy
      rw [quot_zero, H5.out]
      clear H4
      go_wp2_with fail
      refine (impl_operate 5 x 0 _).mono ?_
      rintro e w11 ⟨rfl, g11⟩
      go_wp2_with fail
      refine (impl_operate 5 0 x _).mono ?_
      rintro e w12 ⟨rfl, g12⟩
      go_wp2_with fail
      refine (impl_operate 6 x 0 _).mono ?_
      rintro e w13 ⟨rfl, g13⟩
      have s0 := H1.out
      have s2 := H2.out
      clear H1 H2
      unfold r32 at L1 L2 L3
      obtain ⟨m1, m2⟩ := L1
      obtain ⟨m3, m4⟩ := L2
      obtain ⟨m5, m6⟩ := L3
      generalize opV 5 x 0 = l at s0 s2 m1 m2 ⊢
      generalize opV 5 0 x = g at s0 m3 m4 ⊢
      generalize opV 6 x 0 = e6 at s0 m5 m6 ⊢
      have s1 : wrap64 (wrap64 (l + g) + e6) = 1 := by unfold wrap64; omega
      clear s0
      have G13 := Lib.hid (G10.out.trans (g11.trans (g12.trans g13)))
      clear g11 g12 g13 G10
      have HC2 : Hid (∀ i, i < 7 → w13.cell? ⟨1, i, none⟩ = some (.string (opAt i))) := Lib.hid fun i hi => G13.out.cell (HC.out i hi).1 (HC.out i hi).2
      go_wp2_with fail
      refine (impl_optext op _ HC2.out).mono ?_
      rintro e w' ⟨rfl, rfl⟩
      go_wp2_with fail
      refine (impl_opof _ _ HC2.out).mono ?_
      rintro e w' ⟨rfl, rfl⟩
      go_wp2_with fail
      refine (spec_optext op _).mono ?_
      rintro e w14 ⟨rfl, g14⟩
      go_wp2_with fail
      refine (spec_opof _ _).mono ?_
      rintro e w15 ⟨rfl, g15⟩
      go_wp2_with fail
      refine (impl_operate 1 c d _).mono ?_
      rintro e w16 ⟨rfl, g16⟩
      rw [H3.out]
      go_wp2_with fail
      refine (impl_operate 1 d c _).mono ?_
      rintro e w17 ⟨rfl, g17⟩
      go_wp2_with fail
      go_ret
      exact ⟨rfl, G13.out.trans (g14.trans (g15.trans (g16.trans g17)))⟩
    · rw [H4.out hy] at RR
      rw [H4.out hy]
      have hlt := rem_lt x y hy
      have hsg := rem_sign x y
      generalize hq : opV 4 x y = q at Q
      generalize x.tmod y = r at RR hlt hsg
      clear hq H4 H5
      obtain ⟨q0, q1⟩ := Q
      obtain ⟨r0, r1⟩ := RR
      have hy0 : (y == 0) = false := beq_eq_false_iff_ne.2 hy
      by_cases hr : r = 0
      · subst hr
        clear hsg r0 r1
        by_cases hyp : 0 < y
        · clear hlt hy
          go_wp2_with fail
          refine (impl_operate 5 x y _).mono ?_
          rintro e w11 ⟨rfl, g11⟩
          go_wp2_with fail
          refine (impl_operate 5 y x _).mono ?_
          rintro e w12 ⟨rfl, g12⟩
          go_wp2_with fail
          refine (impl_operate 6 x y _).mono ?_
          rintro e w13 ⟨rfl, g13⟩
          have s0 := H1.out
          have s2 := H2.out
          clear H1 H2
          unfold r32 at L1 L2 L3
          obtain ⟨m1, m2⟩ := L1
          obtain ⟨m3, m4⟩ := L2
          obtain ⟨m5, m6⟩ := L3
          generalize opV 5 x y = l at s0 s2 m1 m2 ⊢
          generalize opV 5 y x = g at s0 m3 m4 ⊢
          generalize opV 6 x y = e6 at s0 m5 m6 ⊢
          have s1 : wrap64 (wrap64 (l + g) + e6) = 1 := by unfold wrap64; omega
          clear s0
          have G13 := Lib.hid (G10.out.trans (g11.trans (g12.trans g13)))
          clear g11 g12 g13 G10
          have HC2 : Hid (∀ i, i < 7 → w13.cell? ⟨1, i, none⟩ = some (.string (opAt i))) := Lib.hid fun i hi => G13.out.cell (HC.out i hi).1 (HC.out i hi).2
          go_wp2_with fail
          refine (impl_optext op _ HC2.out).mono ?_
          rintro e w' ⟨rfl, rfl⟩
          go_wp2_with fail
          refine (impl_opof _ _ HC2.out).mono ?_
          rintro e w' ⟨rfl, rfl⟩
          go_wp2_with fail
          refine (spec_optext op _).mono ?_
          rintro e w14 ⟨rfl, g14⟩
          go_wp2_with fail
          refine (spec_opof _ _).mono ?_
          rintro e w15 ⟨rfl, g15⟩
          go_wp2_with fail
          refine (impl_operate 1 c d _).mono ?_
          rintro e w16 ⟨rfl, g16⟩
          rw [H3.out]
          go_wp2_with fail
          refine (impl_operate 1 d c _).mono ?_
          rintro e w17 ⟨rfl, g17⟩
          go_wp2_with fail
          go_ret
          exact ⟨rfl, G13.out.trans (g14.trans (g15.trans (g16.trans g17)))⟩
        · have hyn : y < 0 := by omega
          clear hlt hy hyp
          go_wp2_with fail
          refine (impl_operate 5 x y _).mono ?_
          rintro e w11 ⟨rfl, g11⟩
          go_wp2_with fail
          refine (impl_operate 5 y x _).mono ?_
          rintro e w12 ⟨rfl, g12⟩
          go_wp2_with fail
          refine (impl_operate 6 x y _).mono ?_
          rintro e w13 ⟨rfl, g13⟩
          have s0 := H1.out
          have s2 := H2.out
          clear H1 H2
          unfold r32 at L1 L2 L3
          obtain ⟨m1, m2⟩ := L1
          obtain ⟨m3, m4⟩ := L2
          obtain ⟨m5, m6⟩ := L3
          generalize opV 5 x y = l at s0 s2 m1 m2 ⊢
          generalize opV 5 y x = g at s0 m3 m4 ⊢
          generalize opV 6 x y = e6 at s0 m5 m6 ⊢
          have s1 : wrap64 (wrap64 (l + g) + e6) = 1 := by unfold wrap64; omega
          clear s0
          have G13 := Lib.hid (G10.out.trans (g11.trans (g12.trans g13)))
          clear g11 g12 g13 G10
          have HC2 : Hid (∀ i, i < 7 → w13.cell? ⟨1, i, none⟩ = some (.string (opAt i))) := Lib.hid fun i hi => G13.out.cell (HC.out i hi).1 (HC.out i hi).2
          go_wp2_with fail
          refine (impl_optext op _ HC2.out).mono ?_
          rintro e w' ⟨rfl, rfl⟩
          go_wp2_with fail
          refine (impl_opof _ _ HC2.out).mono ?_
          rintro e w' ⟨rfl, rfl⟩
          go_wp2_with fail
          refine (spec_optext op _).mono ?_
          rintro e w14 ⟨rfl, g14⟩
          go_wp2_with fail
          refine (spec_opof _ _).mono ?_
          rintro e w15 ⟨rfl, g15⟩
          go_wp2_with fail
          refine (impl_operate 1 c d _).mono ?_
          rintro e w16 ⟨rfl, g16⟩
          rw [H3.out]
          go_wp2_with fail
          refine (impl_operate 1 d c _).mono ?_
          rintro e w17 ⟨rfl, g17⟩
          go_wp2_with fail
          go_ret
          exact ⟨rfl, G13.out.trans (g14.trans (g15.trans (g16.trans g17)))⟩
      · have hr0 : (r == 0) = false := beq_eq_false_iff_ne.2 hr
        have hsg2 := hsg hr
        clear hsg
        have hsp : 0 < r → 0 ≤ x := fun h => by
          rw [decide_eq_false (by omega : ¬ r < 0)] at hsg2
          have := of_decide_eq_false hsg2.symm
          omega
        have hsn : r < 0 → x < 0 := fun h => by
          rw [decide_eq_true h] at hsg2
          exact of_decide_eq_true hsg2.symm
        clear hsg2
        by_cases hyp : 0 < y
        · have l1 : r < y := by omega
          have l2 : -y < r := by omega
          by_cases hrp : 0 < r
          · have hxs := hsp hrp
            have hb1 : (y != 0) = true := by rw [bne_iff_ne]; omega
            have hb2 : (r != 0) = true := by rw [bne_iff_ne]; omega
            have hb3 : decide (r < 0) = false := decide_eq_false (by omega)
            have hb4 : decide (x < 0) = false := decide_eq_false (by omega)
            clear hlt hy hr hsp hsn
            go_wp2_with fail
            refine (impl_operate 5 x y _).mono ?_
            rintro e w11 ⟨rfl, g11⟩
            go_wp2_with fail
            refine (impl_operate 5 y x _).mono ?_
            rintro e w12 ⟨rfl, g12⟩
            go_wp2_with fail
            refine (impl_operate 6 x y _).mono ?_
            rintro e w13 ⟨rfl, g13⟩
            have s0 := H1.out
            have s2 := H2.out
            clear H1 H2
            unfold r32 at L1 L2 L3
            obtain ⟨m1, m2⟩ := L1
            obtain ⟨m3, m4⟩ := L2
            obtain ⟨m5, m6⟩ := L3
            generalize opV 5 x y = l at s0 s2 m1 m2 ⊢
            generalize opV 5 y x = g at s0 m3 m4 ⊢
            generalize opV 6 x y = e6 at s0 m5 m6 ⊢
            have s1 : wrap64 (wrap64 (l + g) + e6) = 1 := by unfold wrap64; omega
            clear s0
            have G13 := Lib.hid (G10.out.trans (g11.trans (g12.trans g13)))
            clear g11 g12 g13 G10
            have HC2 : Hid (∀ i, i < 7 → w13.cell? ⟨1, i, none⟩ = some (.string (opAt i))) := Lib.hid fun i hi => G13.out.cell (HC.out i hi).1 (HC.out i hi).2
            go_wp2_with fail
            refine (impl_optext op _ HC2.out).mono ?_
            rintro e w' ⟨rfl, rfl⟩
            go_wp2_with fail
            refine (impl_opof _ _ HC2.out).mono ?_
            rintro e w' ⟨rfl, rfl⟩
            go_wp2_with fail
            refine (spec_optext op _).mono ?_
            rintro e w14 ⟨rfl, g14⟩
            go_wp2_with fail
            refine (spec_opof _ _).mono ?_
            rintro e w15 ⟨rfl, g15⟩
            go_wp2_with fail
            refine (impl_operate 1 c d _).mono ?_
            rintro e w16 ⟨rfl, g16⟩
            rw [H3.out]
            go_wp2_with fail
            refine (impl_operate 1 d c _).mono ?_
            rintro e w17 ⟨rfl, g17⟩
            go_wp2_with fail
            go_ret
            exact ⟨rfl, G13.out.trans (g14.trans (g15.trans (g16.trans g17)))⟩
          · have hrn : r < 0 := by omega
            have hxs := hsn hrn
            have hb1 : (y != 0) = true := by rw [bne_iff_ne]; omega
            have hb2 : (r != 0) = true := by rw [bne_iff_ne]; omega
            have hb3 : decide (r < 0) = true := decide_eq_true (by omega)
            have hb4 : decide (x < 0) = true := decide_eq_true (by omega)
            clear hlt hy hr hrp hsp hsn
            go_wp2_with fail
            refine (impl_operate 5 x y _).mono ?_
            rintro e w11 ⟨rfl, g11⟩
            go_wp2_with fail
            refine (impl_operate 5 y x _).mono ?_
            rintro e w12 ⟨rfl, g12⟩
            go_wp2_with fail
            refine (impl_operate 6 x y _).mono ?_
            rintro e w13 ⟨rfl, g13⟩
            have s0 := H1.out
            have s2 := H2.out
            clear H1 H2
            unfold r32 at L1 L2 L3
            obtain ⟨m1, m2⟩ := L1
            obtain ⟨m3, m4⟩ := L2
            obtain ⟨m5, m6⟩ := L3
            generalize opV 5 x y = l at s0 s2 m1 m2 ⊢
            generalize opV 5 y x = g at s0 m3 m4 ⊢
            generalize opV 6 x y = e6 at s0 m5 m6 ⊢
            have s1 : wrap64 (wrap64 (l + g) + e6) = 1 := by unfold wrap64; omega
            clear s0
            have G13 := Lib.hid (G10.out.trans (g11.trans (g12.trans g13)))
            clear g11 g12 g13 G10
            have HC2 : Hid (∀ i, i < 7 → w13.cell? ⟨1, i, none⟩ = some (.string (opAt i))) := Lib.hid fun i hi => G13.out.cell (HC.out i hi).1 (HC.out i hi).2
            go_wp2_with fail
            refine (impl_optext op _ HC2.out).mono ?_
            rintro e w' ⟨rfl, rfl⟩
            go_wp2_with fail
            refine (impl_opof _ _ HC2.out).mono ?_
            rintro e w' ⟨rfl, rfl⟩
            go_wp2_with fail
            refine (spec_optext op _).mono ?_
            rintro e w14 ⟨rfl, g14⟩
            go_wp2_with fail
            refine (spec_opof _ _).mono ?_
            rintro e w15 ⟨rfl, g15⟩
            go_wp2_with fail
            refine (impl_operate 1 c d _).mono ?_
            rintro e w16 ⟨rfl, g16⟩
            rw [H3.out]
            go_wp2_with fail
            refine (impl_operate 1 d c _).mono ?_
            rintro e w17 ⟨rfl, g17⟩
            go_wp2_with fail
            go_ret
            exact ⟨rfl, G13.out.trans (g14.trans (g15.trans (g16.trans g17)))⟩
        · have hyn : y < 0 := by omega
          have l1 : r < -y := by omega
          have l2 : y < r := by omega
          by_cases hrp : 0 < r
          · have hxs := hsp hrp
            have hb1 : (y != 0) = true := by rw [bne_iff_ne]; omega
            have hb2 : (r != 0) = true := by rw [bne_iff_ne]; omega
            have hb3 : decide (r < 0) = false := decide_eq_false (by omega)
            have hb4 : decide (x < 0) = false := decide_eq_false (by omega)
            clear hlt hy hr hyp hsp hsn
            go_wp2_with fail
            refine (impl_operate 5 x y _).mono ?_
            rintro e w11 ⟨rfl, g11⟩
            go_wp2_with fail
            refine (impl_operate 5 y x _).mono ?_
            rintro e w12 ⟨rfl, g12⟩
            go_wp2_with fail
            refine (impl_operate 6 x y _).mono ?_
            rintro e w13 ⟨rfl, g13⟩
            have s0 := H1.out
            have s2 := H2.out
            clear H1 H2
            unfold r32 at L1 L2 L3
            obtain ⟨m1, m2⟩ := L1
            obtain ⟨m3, m4⟩ := L2
            obtain ⟨m5, m6⟩ := L3
            generalize opV 5 x y = l at s0 s2 m1 m2 ⊢
            generalize opV 5 y x = g at s0 m3 m4 ⊢
            generalize opV 6 x y = e6 at s0 m5 m6 ⊢
            have s1 : wrap64 (wrap64 (l + g) + e6) = 1 := by unfold wrap64; omega
            clear s0
            have G13 := Lib.hid (G10.out.trans (g11.trans (g12.trans g13)))
            clear g11 g12 g13 G10
            have HC2 : Hid (∀ i, i < 7 → w13.cell? ⟨1, i, none⟩ = some (.string (opAt i))) := Lib.hid fun i hi => G13.out.cell (HC.out i hi).1 (HC.out i hi).2
            go_wp2_with fail
            refine (impl_optext op _ HC2.out).mono ?_
            rintro e w' ⟨rfl, rfl⟩
            go_wp2_with fail
            refine (impl_opof _ _ HC2.out).mono ?_
            rintro e w' ⟨rfl, rfl⟩
            go_wp2_with fail
            refine (spec_optext op _).mono ?_
            rintro e w14 ⟨rfl, g14⟩
            go_wp2_with fail
            refine (spec_opof _ _).mono ?_
            rintro e w15 ⟨rfl, g15⟩
            go_wp2_with fail
            refine (impl_operate 1 c d _).mono ?_
            rintro e w16 ⟨rfl, g16⟩
            rw [H3.out]
            go_wp2_with fail
            refine (impl_operate 1 d c _).mono ?_
            rintro e w17 ⟨rfl, g17⟩
            go_wp2_with fail
            go_ret
            exact ⟨rfl, G13.out.trans (g14.trans (g15.trans (g16.trans g17)))⟩
          · have hrn : r < 0 := by omega
            have hxs := hsn hrn
            have hb1 : (y != 0) = true := by rw [bne_iff_ne]; omega
            have hb2 : (r != 0) = true := by rw [bne_iff_ne]; omega
            have hb3 : decide (r < 0) = true := decide_eq_true (by omega)
            have hb4 : decide (x < 0) = true := decide_eq_true (by omega)
            clear hlt hy hr hrp hyp hsp hsn
            go_wp2_with fail
            refine (impl_operate 5 x y _).mono ?_
            rintro e w11 ⟨rfl, g11⟩
            go_wp2_with fail
            refine (impl_operate 5 y x _).mono ?_
            rintro e w12 ⟨rfl, g12⟩
            go_wp2_with fail
            refine (impl_operate 6 x y _).mono ?_
            rintro e w13 ⟨rfl, g13⟩
            have s0 := H1.out
            have s2 := H2.out
            clear H1 H2
            unfold r32 at L1 L2 L3
            obtain ⟨m1, m2⟩ := L1
            obtain ⟨m3, m4⟩ := L2
            obtain ⟨m5, m6⟩ := L3
            generalize opV 5 x y = l at s0 s2 m1 m2 ⊢
            generalize opV 5 y x = g at s0 m3 m4 ⊢
            generalize opV 6 x y = e6 at s0 m5 m6 ⊢
            have s1 : wrap64 (wrap64 (l + g) + e6) = 1 := by unfold wrap64; omega
            clear s0
            have G13 := Lib.hid (G10.out.trans (g11.trans (g12.trans g13)))
            clear g11 g12 g13 G10
            have HC2 : Hid (∀ i, i < 7 → w13.cell? ⟨1, i, none⟩ = some (.string (opAt i))) := Lib.hid fun i hi => G13.out.cell (HC.out i hi).1 (HC.out i hi).2
            go_wp2_with fail
            refine (impl_optext op _ HC2.out).mono ?_
            rintro e w' ⟨rfl, rfl⟩
            go_wp2_with fail
            refine (impl_opof _ _ HC2.out).mono ?_
            rintro e w' ⟨rfl, rfl⟩
            go_wp2_with fail
            refine (spec_optext op _).mono ?_
            rintro e w14 ⟨rfl, g14⟩
            go_wp2_with fail
            refine (spec_opof _ _).mono ?_
            rintro e w15 ⟨rfl, g15⟩
            go_wp2_with fail
            refine (impl_operate 1 c d _).mono ?_
            rintro e w16 ⟨rfl, g16⟩
            rw [H3.out]
            go_wp2_with fail
            refine (impl_operate 1 d c _).mono ?_
            rintro e w17 ⟨rfl, g17⟩
            go_wp2_with fail
            go_ret
            exact ⟨rfl, G13.out.trans (g14.trans (g15.trans (g16.trans g17)))⟩

set_option maxRecDepth 100000 in
theorem lifted (os : Os) (started : os.Started) (H : Type) (enc : TypeId × Value → H) :
    ReturnsInHanded {} Tryd.checked os 7 .any (fun w args => (Rows.fnWrapSpec.pre enc Tryd.prog Tryd.f7 Rows.fnWrapRow.domain false w args ∧ laidMetH Tryd.prog Rows.fnWrapRow.laid w) ∧ sizedMet enc Tryd.prog Tryd.f7 (OpenSpec.ofChange Rows.fnWrapSpec) false w args)
      (Rows.fnWrapSpec.post enc Tryd.prog Tryd.f7 false true false false) := by
  refine returnsInHanded_of_change_and (C := Tryd.checked) (X := fun w _ => laidMetH Tryd.prog Rows.fnWrapRow.laid w) (fun _ _ _ hh h => h.of_heap hh) own started (by kernel_rfl) Tryd.func7
    (ChangeSpec.witness_shaped (enc := enc) (C := Tryd.checked) (os := os) (X := fun w _ => laidMetH Tryd.prog Rows.fnWrapRow.laid w) false (World.laidAll Tryd.prog os Rows.fnWrapRow.laid) #[.slice none 0 0, .slice none 0 0] 8 (World.laidAll_os _ _ _)
      (World.shaped_of_ZipB (by kernel_rfl) (by kernel_rfl)) (by kernel_rfl) (by kernel_rfl) (by kernel_rfl)
      (by rw [MakeChecks.laidMetH_plain _ _ _ (by kernel_rfl)]; exact laidMet_laidAll _ (by kernel_rfl) (by kernel_rfl))) ?_
  intro W base args ds gs before hval0 hW _ _ hT _
  have hval : ∀ (j : Nat) t v, Tryd.f7.params[j]? = some t → args[j]? = some v → Value.okWide Tryd.prog W .any base t v := hval0
  have hW' := hW
  obtain ⟨p, q, hA0, hV0, rfl, hfz, hnd⟩ := hW
  have hA : DataW.TrodAll enc Tryd.prog W 0 (fun _ => true) true Tryd.f7.params.toList args.toList ds p := hA0
  rw [Tryd.params7] at hA hval
  obtain ⟨v0, vs0, d0, ds0, p0, q0, hargs, rfl, rfl, h0, r0⟩ := trodAll_cons hA
  obtain ⟨v1, vs1, d1, ds1, p1, q1, rfl, rfl, rfl, h1, r1⟩ := trodAll_cons r0
  obtain ⟨rfl, rfl, rfl⟩ := trodAll_nil r1
  obtain rfl : args = #[v0, v1] := by cases args; simp_all
  obtain ⟨z0, w0⟩ := rdBytes_of Tryd.underlying28 Tryd.underlying5 (by kernel_rfl) (hval 0 28 v0 rfl rfl) h0
  obtain ⟨z1, w1⟩ := rdBytes_of Tryd.underlying28 Tryd.underlying5 (by kernel_rfl) (hval 1 28 v1 rfl rfl) h1
  obtain ⟨g0, rfl⟩ : ∃ g0, gs = [g0] := by
    obtain ⟨g, t, cs, fuel, d, p', rfl, _⟩ := trodVars_one hV0
    exact ⟨d, rfl⟩
  refine (walk W v0 z0 w0 v1 z1 w1 hT).mono fun e W' ⟨he, hg⟩ => ?_
  subst he
  exact ⟨_, rfl, post_law laidOut (by kernel_rfl) (by kernel_rfl) rfl Tryd.underlying4 hW' hg rfl⟩

theorem holds : Rows.FnWrapSaid :=
  OpenClaim.holds_of_wide 7 Tryd.f7 rfl rfl rfl rfl rfl rfl rfl ⟨rfl, rfl, rfl, rfl, rfl⟩ rfl rfl rfl rfl rfl (by kernel_rfl) Tryd.func7 (by kernel_rfl)
    (of_decide_eq_true (by kernel_rfl)) (by unfold Func.isWrapper; first | (rw [if_pos (by decide +kernel)]; kernel_rfl) | (rw [if_neg (by decide +kernel)]; exact ⟨rfl, rfl⟩))
    (fun os started H enc _ => lifted os started H enc)

/-- The given statement: the tied card. -/
theorem proved : Rows.FnWrapCardSaid :=
  Claim7.holds_tied_plain_at .later [] [.data] true Rows.fnWrapCard.stood.harness true holds (fun _ h => by cases h) (by kernel_rfl) (fun _ h => by cases h) fnWrap_row_tie rfl ⟨rfl, rfl⟩ (by kernel_rfl) rfl
    (fun f fn hf hfn => by
      obtain rfl : f = 7 := Option.some.inj ((show Tryd.prog.funcNamed Rows.fnWrapRow.func = some 7 by kernel_rfl).symm.trans hf) |>.symm
      obtain rfl : fn = Tryd.f7 := (Option.some.inj (Tryd.func7.symm.trans hfn)).symm
      exact ⟨by kernel_rfl, fun j t ht => by
        rw [Tryd.params7] at ht
        have hm : t ∈ [28, 28] := by simpa using Array.mem_of_getElem? ht
        have hall : ([28, 28].all fun u => !Tryd.prog.wantsStandIn u) = true := by kernel_rfl
        exact (show Tryd.prog.wantsStandIn t = false by simpa using List.all_eq_true.1 hall t hm)⟩)
    (by kernel_rfl)
#print axioms proved
end Go.Proofs.YtkajadnkgjphgaaDoor.fnWrap
