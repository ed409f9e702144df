/-
  Proved: for every type the law FnExactEraseType returns true and leaves its argument as it was. No condition.
-/
import Derived.Test.YtbbldkhlclfmkaaTyLaw
import Derived.Deep.RegionHeld3
import Derived.Deep.Cut
namespace Go.Proofs.Ytbbldkhlclfmkaa.fnExactEraseType
open Go.ChangeShapes Go.WideShapes Go.ChangeAt Go.RowKit Con
set_option linter.unusedVariables false
theorem own : ownKnob Try.prog.godebug = none := by kernel_rfl
theorem laidOut : laidOutB Try.prog = true := by kernel_rfl

set_option maxHeartbeats 4000000 in
theorem walk (w : World) (a0 : LT) (w0 : a0.Ok w) :
    Calls Try.prog 4 #[a0.val] w fun e w' => e = .returned (.bool true) ∧ Gw w w' := by
  have ob : a0.Ok (w.alloc (.cells #[.int .i64 a0.k, .string a0.n, .slice a0.a a0.ks.length a0.cap] 24)) := w0.grow ((Below.refl _ _).alloc (Nat.le_refl _) _)
  have g0 : Gw w (w.alloc (.cells #[.int .i64 a0.k, .string a0.n, .slice a0.a a0.ks.length a0.cap] 24)) := (Gw.refl w).alloc _
  by_cases hsz : 1048576 < a0.sz
  · have HS := Lib.hid (show szR 1048576 a0.sz = -1 from if_neg (by omega))
    go_enter Try.func4, Try.ntmps4
    go_wp2_with fail
    refine (laws_szType a0 _ _ ob (by omega) (by omega)).mono ?_
    rintro e w1 ⟨he, g1⟩
    rw [HS.out] at he
    subst he
    go_wp2_with fail
    go_ret
    exact ⟨rfl, g0.trans g1⟩
  · have HS := Lib.hid (show szR 1048576 a0.sz = 1048576 - a0.sz from if_pos (by omega))
    have b0 := Box.new w a0 24
    go_enter Try.func4, Try.ntmps4
    go_wp2_with fail
    refine (laws_szType a0 _ _ ob (by omega) (by omega)).mono ?_
    rintro e w1 ⟨he, g1⟩
    rw [HS.out] at he
    subst he
    have hp : (0 : Int) ≤ 1048576 - a0.sz := by omega
    have b1 := b0.grow g1
    have o1 := ob.grow g1
    have G1 := g0.trans g1
    have HB := Lib.hid b1
    have HO := Lib.hid o1
    obtain ⟨p0, p1, p2⟩ := b1.c
    have hs1 : w.heap.size < w1.heap.size := b1.lt
    clear b0 b1 o1 ob g0 g1
    go_upto_region 5 with (fail)
    clear p0 p1 p2 hp
    obtain ⟨p0, p1, p2⟩ := HB.out.c
    go_wp2_with fail
    refine (laws_toType a0 _ HO.out (by omega)).mono ?_
    rintro e w2 ⟨x, rfl, hx, nx, g2⟩
    have HX := Lib.hid hx
    clear hx p0 p1 p2
    go_wp2_with fail
    refine (spec_eraseType x _ nx.1).mono ?_
    rintro e w3 ⟨v, rfl, hv, nv, g3⟩
    rw [HX.out] at hv
    have HV := Lib.hid hv
    have hs2 : w1.heap.size ≤ w2.heap.size := g2.size
    have hs3 : w2.heap.size ≤ w3.heap.size := g3.size
    have hvlt := nv.lt
    have hvge := nv.ge
    go_upto_region 6 with (fail)
    have gA : Gw w1 (w3.alloc (.cells #[.int .i64 v.k, .string v.n, .slice v.a v.ks.length v.cap] 29)) := (g2.trans g3).alloc _
    have B0 := HB.out.grow gA
    have B4 := Box.new w3 v 29
    have O3 := HO.out.grow gA
    have V3 := nv.grow ((Gw.refl w3).alloc (.cells #[.int .i64 v.k, .string v.n, .slice v.a v.ks.length v.cap] 29))
    have G3 := G1.trans gA
    have hz3 : (w3.alloc (.cells #[.int .i64 v.k, .string v.n, .slice v.a v.ks.length v.cap] 29)).heap.size = w3.heap.size + 1 := by simp
    clear gA g2 g3 nv hv nx HB HO G1
    generalize w3.alloc (.cells #[.int .i64 v.k, .string v.n, .slice v.a v.ks.length v.cap] 29) = W3 at *
    obtain ⟨p0, p1, p2⟩ := B0.c
    go_wp2_with fail
    refine (laws_toType a0 _ O3 (by omega)).mono ?_
    rintro e w4 ⟨y, rfl, hy, ny, g4⟩
    have HY := Lib.hid hy
    have hs4 : W3.heap.size ≤ w4.heap.size := g4.size
    have hylt := ny.lt
    have hyge := ny.ge
    clear p0 p1 p2
    go_upto_region 7 with (fail)
    have gA : Gw W3 (w4.alloc (.cells #[.int .i64 y.k, .string y.n, .slice y.a y.ks.length y.cap] 29)) := g4.alloc _
    replace B0 := B0.grow gA
    replace B4 := B4.grow gA
    have B5 := Box.new w4 y 29
    have V4 := V3.grow gA
    have Y4 := ny.grow ((Gw.refl w4).alloc (.cells #[.int .i64 y.k, .string y.n, .slice y.a y.ks.length y.cap] 29))
    have G4 := G3.trans gA
    have hz4 : (w4.alloc (.cells #[.int .i64 y.k, .string y.n, .slice y.a y.ks.length y.cap] 29)).heap.size = w4.heap.size + 1 := by simp
    clear gA g4 ny hy V3 O3 G3
    generalize w4.alloc (.cells #[.int .i64 y.k, .string y.n, .slice y.a y.ks.length y.cap] 29) = W4 at *
    obtain ⟨p0, p1, p2⟩ := B5.c
    go_wp2_with fail
    refine (impl_eraseType y _ Y4.1).mono ?_
    rintro e w5 ⟨u, rfl, hu, nu, g5⟩
    rw [HY.out] at hu
    have HU := Lib.hid hu
    have hs5 : W4.heap.size ≤ w5.heap.size := g5.size
    have hult := nu.lt
    have huge := nu.ge
    clear p0 p1 p2
    go_upto_region 8 with (fail)
    have gA : Gw W4 (w5.alloc (.cells #[.int .i64 u.k, .string u.n, .slice u.a u.ks.length u.cap] 29)) := g5.alloc _
    replace B0 := B0.grow gA
    replace B4 := B4.grow gA
    replace B5 := B5.grow gA
    have B6 := Box.new w5 u 29
    have V5 := V4.grow gA
    have Y5 := Y4.grow gA
    have U5 := nu.grow ((Gw.refl w5).alloc (.cells #[.int .i64 u.k, .string u.n, .slice u.a u.ks.length u.cap] 29))
    have G5 := G4.trans gA
    have hz5 : (w5.alloc (.cells #[.int .i64 u.k, .string u.n, .slice u.a u.ks.length u.cap] 29)).heap.size = w5.heap.size + 1 := by simp
    clear gA g5 nu hu V4 Y4 G4
    generalize w5.alloc (.cells #[.int .i64 u.k, .string u.n, .slice u.a u.ks.length u.cap] 29) = W5 at *
    obtain ⟨p0, p1, p2⟩ := B6.c
    obtain ⟨q0, q1, q2⟩ := B4.c
    go_wp2_with fail
    refine (laws_eqType u v _ U5.1 V5.1 (by rw [HU.out, HV.out])).mono ?_
    rintro e w6 ⟨rfl, g6⟩
    have G6 := G5.trans g6
    replace B0 := B0.grow g6
    replace B4 := B4.grow g6
    replace B5 := B5.grow g6
    replace B6 := B6.grow g6
    have V6 := V5.grow g6
    have Y6 := Y5.grow g6
    have U6 := U5.grow g6
    have hs6 : W5.heap.size ≤ w6.heap.size := g6.size
    clear p0 p1 p2 q0 q1 q2 V5 Y5 U5 G5 g6
    go_wp2_with fail
    obtain ⟨q0, q1, q2⟩ := B5.c
    obtain ⟨p0, p1, p2⟩ := B0.c
    have hl5 := B5.lt
    have hw5 := B0.lt
    have o6 := (w0.grow G6).drew
    have y6 := Y6.1.drew
    go_region_held3 (fun W => W.cell? ⟨w4.heap.size, 0, none⟩ = some (.int .i64 y.k) ∧ W.cell? ⟨w4.heap.size, 1, none⟩ = some (.string y.n) ∧ W.cell? ⟨w4.heap.size, 2, none⟩ = some (.slice y.a y.ks.length y.cap) ∧ W.cell? ⟨w.heap.size, 0, none⟩ = some (.int .i64 a0.k) ∧ W.cell? ⟨w.heap.size, 1, none⟩ = some (.string a0.n) ∧ W.cell? ⟨w.heap.size, 2, none⟩ = some (.slice a0.a a0.ks.length a0.cap))
      (first | exact ⟨q0, q1, q2, p0, p1, p2⟩ | exact ⟨(k6 _ _ hl5).trans q0, (k6 _ _ hl5).trans q1, (k6 _ _ hl5).trans q2, (k6 _ _ hw5).trans p0, (k6 _ _ hw5).trans p1, (k6 _ _ hw5).trans p2⟩ | exact ⟨(k7 _ _ hl5).trans q0, (k7 _ _ hl5).trans q1, (k7 _ _ hl5).trans q2, (k7 _ _ hw5).trans p0, (k7 _ _ hw5).trans p1, (k7 _ _ hw5).trans p2⟩)
      (first
        | (go_at_call 11; refine (laws_toType a0 _ (by exact o6) (by omega)).mono ?_; rintro e w7 ⟨z, rfl, hz, nz, g7⟩; have HZ := Lib.hid hz; clear hz; have k6 : ∀ b o, b < w6.heap.size → w7.cell? ⟨b, o, none⟩ = w6.cell? ⟨b, o, none⟩ := fun b o h => (bcell g7).1 b o h)
        | (go_at_call 13; refine (laws_eqType y z _ (by exact y6.grow g7) nz.1 (by rw [HY.out, HZ.out])).mono ?_; rintro e w8 ⟨rfl, g8⟩; have k7 : ∀ b o, b < w6.heap.size → w8.cell? ⟨b, o, none⟩ = w6.cell? ⟨b, o, none⟩ := fun b o h => ((bcell g8).1 b o (Nat.lt_of_lt_of_le h g7.size)).trans (k6 b o h)))
    have gA : Gw w6 w8 := ((Gw.refl w6).drew.trans g7).trans g8
    replace B0 := B0.grow gA
    replace B4 := B4.grow gA
    replace B5 := B5.grow gA
    replace B6 := B6.grow gA
    have V8 := V6.grow gA
    have Y8 := Y6.grow gA
    have U8 := U6.grow gA
    have G8 := G6.trans gA
    have hs8 : w6.heap.size ≤ w8.heap.size := gA.size
    clear gA g7 g8 k6 k7 o6 y6 hl5 hw5 p0 p1 p2 q0 q1 q2 V6 Y6 U6 G6 HZ nz
    obtain ⟨q0, q1, q2⟩ := B5.c
    go_wp2_with fail
    have hcy : 1 + 2 * cntl y.ks ≤ 8000000 := cnt_small (t := a0) HY.out (Nat.le_refl _) (by omega)
    have hcu : 1 + 2 * cntl u.ks ≤ 8000000 := cnt_small (t := a0) HU.out (erased_cnt a0) (by omega)
    have HCU := Lib.hid hcu
    have keyM := laws_mark y _ w8 1 Y8 (Nat.le_refl _) hcy
    rw [show ((1 : Nat) : Int) = 1 from rfl] at keyM
    refine keyM.mono ?_
    clear keyM hcy hcu q0 q1 q2
    rintro e w9 ⟨rfl, _, hc⟩
    have hs9 : w8.heap.size ≤ w9.heap.size := hc.2.2.2.1
    replace B0 := B0.chg hc (fun hm => by have := hyge _ hm; omega)
    replace B4 := B4.chg hc (fun hm => by have := hyge _ hm; omega)
    replace B6 := B6.chg hc (fun hm => by have := hylt _ hm; omega)
    have V9 := V8.chg hc (fun b hb hm => by have := hvlt _ hb; have := hyge _ hm; omega)
    have U9 := U8.chg hc (fun b hb hm => by have := huge _ hb; have := hylt _ hm; omega)
    have G9 : Gw w w9 := Below.trans G8 (hc.gw (by omega) (fun b hb hm => by have := hyge _ hm; omega))
    clear hc B5 V8 U8 Y8 G8
    generalize (mkl y.ks 1).2 = qk at *
    have hqk : ¬ ((qk : Nat) : Int) < 0 := by omega
    obtain ⟨p0, p1, p2⟩ := B6.c
    obtain ⟨q0, q1, q2⟩ := B4.c
    go_wp2_with fail
    refine (laws_eqType u v _ U9.1 V9.1 (by rw [HU.out, HV.out])).mono ?_
    rintro e w10 ⟨rfl, g10⟩
    have G10 := G9.trans g10
    replace B0 := B0.grow g10
    replace B4 := B4.grow g10
    replace B6 := B6.grow g10
    have V10 := V9.grow g10
    have U10 := U9.grow g10
    have hs10 : w9.heap.size ≤ w10.heap.size := g10.size
    clear p0 p1 p2 q0 q1 q2 V9 U9 G9 g10 hqk
    obtain ⟨p0, p1, p2⟩ := B6.c
    go_wp2_with fail
    have keyM := laws_mark u _ w10 1 U10 (Nat.le_refl _) HCU.out
    rw [show ((1 : Nat) : Int) = 1 from rfl] at keyM
    refine keyM.mono ?_
    clear keyM p0 p1 p2
    rintro e w11 ⟨rfl, SL, hc⟩
    have hs11 : w10.heap.size ≤ w11.heap.size := hc.2.2.2.1
    replace B0 := B0.chg hc (fun hm => by have := huge _ hm; omega)
    replace B4 := B4.chg hc (fun hm => by have := huge _ hm; omega)
    replace B6 := B6.chg hc (fun hm => by have := hult _ hm; omega)
    have V11 := V10.chg hc (fun b hb hm => by have := hvlt _ hb; have := huge _ hm; omega)
    have G11 : Gw w w11 := Below.trans G10 (hc.gw (by omega) (fun b hb hm => by have := huge _ hm; omega))
    have HK : ∀ W : World, Gw w11 W → Calls Try.prog 17 #[u.val, .int .i64 1] W (HdPost W (mkl u.ks 1).2) := fun W g => laws_held u W 1 (SL.ok.grow g) (Nat.le_refl _) HCU.out
    have HKH := Lib.hid HK
    clear hc V10 U10 G10 SL HK
    generalize (mkl u.ks 1).2 = qm at *
    have hqm : ¬ ((qm : Nat) : Int) < 0 := by omega
    obtain ⟨p0, p1, p2⟩ := B6.c
    go_wp2_with fail
    refine (HKH.out w11 (Gw.refl _)).mono ?_
    rintro e w12 ⟨rfl, g12⟩
    have G12 := G11.trans g12
    replace B0 := B0.grow g12
    replace B4 := B4.grow g12
    replace B6 := B6.grow g12
    have V12 := V11.grow g12
    clear p0 p1 p2 V11
    obtain ⟨p0, p1, p2⟩ := B0.c
    go_wp2_with fail
    refine (laws_toType a0 _ (w0.grow G12) (by omega)).mono ?_
    rintro e w13 ⟨z2, rfl, hz, nz, g13⟩
    have HZ2 := Lib.hid hz
    clear hz p0 p1 p2
    go_wp2_with fail
    refine (impl_eraseType z2 _ nz.1).mono ?_
    rintro e w14 ⟨h, rfl, hh, nh, g14⟩
    rw [HZ2.out] at hh
    have HH := Lib.hid hh
    clear hh
    go_upto_region 25 with (fail)
    have gA : Gw w12 (w14.alloc (.cells #[.int .i64 h.k, .string h.n, .slice h.a h.ks.length h.cap] 29)) := (g13.trans g14).alloc _
    replace B4 := B4.grow gA
    replace B6 := B6.grow gA
    have B9 := Box.new w14 h 29
    have V14 := V12.grow gA
    have H14 := nh.grow ((Gw.refl w14).alloc (.cells #[.int .i64 h.k, .string h.n, .slice h.a h.ks.length h.cap] 29))
    have G14 := G12.trans gA
    have g1114 := g12.trans gA
    clear gA g13 g14 nz nh V12 G12 B0 g12 G11
    generalize w14.alloc (.cells #[.int .i64 h.k, .string h.n, .slice h.a h.ks.length h.cap] 29) = W14 at *
    obtain ⟨p0, p1, p2⟩ := B9.c
    obtain ⟨q0, q1, q2⟩ := B4.c
    go_wp2_with fail
    refine (laws_eqType h v _ H14.1 V14.1 (by rw [HH.out, HV.out])).mono ?_
    rintro e w15 ⟨rfl, g15⟩
    have G15 := G14.trans g15
    replace B6 := B6.grow g15
    have g1115 := g1114.trans g15
    clear p0 p1 p2 q0 q1 q2 V14 H14 G14 B4 B9 g15 g1114
    obtain ⟨p0, p1, p2⟩ := B6.c
    go_wp2_with fail
    refine (HKH.out w15 g1115).mono ?_
    rintro e w16 ⟨rfl, g16⟩
    clear p0 p1 p2
    go_wp2_with fail
    go_ret
    exact ⟨rfl, G15.trans g16⟩

set_option maxRecDepth 100000 in
theorem lifted (os : Os) (started : os.Started) (H : Type) (enc : TypeId × Value → H) :
    ReturnsInHanded {} Try.checked os 4 .any (Rows.fnExactEraseTypeSpec.pre6 enc Try.prog Try.f4 Rows.fnExactEraseTypeRow.domain false) (Rows.fnExactEraseTypeSpec.post enc Try.prog Try.f4 false true false false) := by
  refine returnsInHanded_of_change (C := Try.checked) own started (by kernel_rfl) Try.func4
    (ChangeSpec.witness6 (enc := enc) (C := Try.checked) false ⟨#[], #[.agg #[.int .i64 0, .string ⟨#[]⟩, .slice none 0 0]], []⟩ 8 (by kernel_rfl) (by kernel_rfl) (by kernel_rfl) (by kernel_rfl)) ?_
  intro W base args ds gs before hval0 hW _ _
  have hval : ∀ (j : Nat) t v, Try.f4.params[j]? = some t → args[j]? = some v → Value.okWide Try.prog W .any base t v := hval0
  have hW' := hW
  obtain ⟨p, q, hA0, hV0, rfl, hfz, hnd⟩ := hW
  have hA : DataW.TrodAll enc Try.prog W 0 (fun _ => true) true Try.f4.params.toList args.toList ds p := hA0
  rw [Try.params4] at hA hval
  obtain ⟨v0, vs0, d0, ds0, p0, q0, hargs, rfl, rfl, h0, r0⟩ := trodAll_cons hA
  obtain ⟨rfl, rfl, rfl⟩ := trodAll_nil r0
  obtain rfl : args = #[v0] := by cases args; simp_all
  obtain ⟨a0, rfl, w0⟩ := open_type (hval 0 24 v0 rfl rfl) h0
  obtain ⟨rfl, rfl⟩ := trodVars_none hV0
  refine (walk W a0 w0).mono fun e W' ⟨he, hg⟩ => ?_
  subst he
  exact ⟨_, rfl, post_law laidOut (by kernel_rfl) (by kernel_rfl) rfl Try.underlying4 hW' hg rfl⟩

theorem proved : Rows.FnExactEraseTypeSaid :=
  OpenClaim.holds_of_wide 4 Try.f4 rfl rfl rfl rfl rfl rfl rfl ⟨rfl, rfl, rfl, rfl, rfl⟩ rfl rfl rfl rfl rfl (by kernel_rfl) Try.func4 (by kernel_rfl)
    (of_decide_eq_true (by kernel_rfl)) (by unfold Func.isWrapper; first | (rw [if_pos (by decide +kernel)]; kernel_rfl) | (rw [if_neg (by decide +kernel)]; exact ⟨rfl, rfl⟩))
    (fun os started H enc _ => lifted os started H enc)
#print axioms proved
end Go.Proofs.Ytbbldkhlclfmkaa.fnExactEraseType
