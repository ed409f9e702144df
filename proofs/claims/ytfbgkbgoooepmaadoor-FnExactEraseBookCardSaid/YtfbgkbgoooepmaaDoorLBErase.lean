/-
  Proved: for every book the law FnExactEraseBook returns true and leaves its argument and the program's table coreForms as they were. Condition: coreForms reads as the program's text lays it, which the card ties to the text.
-/
import Derived.Test.YtfbgkbgoooepmaaDoorCoEb
import Derived.Test.YtfbgkbgoooepmaaDoorCoMk
import Derived.Deep.RegionHeld3
import Derived.Deep.Cut
import Derived.Test.YtfbgkbgoooepmaaDoorCards
import Derived.Test.YtfbgkbgoooepmaaDoorTie
import Derived.LaidMore
import Derived.Lay
import Derived.SevenTiedAt
import Derived.Stop.Joined
namespace Go.Proofs.YtfbgkbgoooepmaaDoor.fnExactEraseBook
open Go.ChangeShapes Go.WideShapes Go.ChangeAt Go.RowKit Con
set_option linter.unusedVariables false
theorem own : ownKnob Tryd.prog.godebug = none := by kernel_rfl
theorem laidOut : laidOutB Tryd.prog = true := by kernel_rfl

set_option maxRecDepth 100000 in
set_option maxHeartbeats 4000000 in
theorem walk (w : World) (a0 : LB) (w0 : bOk w a0) (hT : laidMetH Tryd.prog Rows.fnExactEraseBookRow.laid w) :
    Calls Tryd.prog 13 #[a0.val] w fun e w' => e = .returned (.bool true) ∧ Gw w w' := by
  have hTb : KTbl w := ktbl_of (by have h2 : laidMetH Tryd.prog Rows.fnExactEraseBookRow.laid w := hT; rw [MakeChecks.laidMetH_plain _ _ _ (by kernel_rfl)] at h2; exact h2)
  have TB := Lib.hid hTb
  have O0 := Lib.hid w0
  have gW : Gw w (w.alloc (.cells #[.slice a0.a a0.ks.length a0.cap] 38)) := (Gw.refl w).alloc _
  have B0 := BoxB.new w a0 38
  clear hTb hT
  go_enter Tryd.func13, Tryd.ntmps13
  go_upto_region 2 with (fail)
  generalize w.alloc (.cells #[.slice a0.a a0.ks.length a0.cap] 38) = wA at *
  have p0 := B0.c
  go_wp2_with fail
  refine (laws_szBook a0 _ _ (bOk.grow (u := a0) O0.out gW) (by omega) (by omega)).mono ?_
  rintro e wB ⟨he, gB⟩
  subst he
  replace B0 := B0.grow gB
  replace gW := gW.trans gB
  clear p0 gB
  by_cases hsA : 1048576 < a0.sz
  · have HS : szR 1048576 a0.sz = -1 := if_neg (by omega)
    rw [HS]
    go_wp2_with fail
    go_ret
    exact ⟨rfl, gW⟩
  have HS : szR 1048576 a0.sz = 1048576 - a0.sz := if_pos (by omega)
  rw [HS]
  have hp : ¬ ((1048576 : Int) - a0.sz < 0) := by omega
  have hz : a0.sz ≤ 1048576 := by omega
  clear HS hsA
  have hs1 : w.heap.size < wB.heap.size := B0.lt
  have p0 := B0.c
  go_wp2_with fail
  refine (laws_toBook a0 _ (bOk.grow (u := a0) O0.out gW) hz).mono ?_
  rintro e w2 ⟨x, rfl, hx, nx, g2⟩
  have HX := Lib.hid hx
  clear hx hp
  go_wp2_with fail
  refine (spec_eraseBook x _ nx.1).mono ?_
  rw [HX.out]
  rintro e w3 ⟨v, rfl, hv, nv, g3⟩
  have HV := Lib.hid hv
  clear hv p0
  have hs2 : wB.heap.size ≤ w2.heap.size := g2.size
  have hs3 : w2.heap.size ≤ w3.heap.size := g3.size
  have hvlt : ∀ y ∈ nbl LK.bl v.a v.ks, y < w3.heap.size := fun y hy => (nv.2.2 y hy).2.lt
  have hvge : ∀ y ∈ nbl LK.bl v.a v.ks, w2.heap.size ≤ y := fun y hy => by have := (nv.2.2 y hy).1; omega
  have gA : Gw wB (w3.alloc (.cells #[.slice v.a v.ks.length v.cap] 42)) := (g2.trans g3).alloc _
  replace B0 := B0.grow gA
  have B4 := BoxB.new w3 v 42
  have V3 := gNewSl.grow coLen coGr nv ((Gw.refl w3).alloc (.cells #[.slice v.a v.ks.length v.cap] 42))
  replace gW := gW.trans gA
  have hz3 : (w3.alloc (.cells #[.slice v.a v.ks.length v.cap] 42)).heap.size = w3.heap.size + 1 := by simp
  clear gA g2 g3 nv nx
  go_upto_region 6 with (fail)
  generalize w3.alloc (.cells #[.slice v.a v.ks.length v.cap] 42) = W3 at *
  have p0 := B0.c
  go_wp2_with fail
  refine (laws_toBook a0 _ (bOk.grow (u := a0) O0.out gW) hz).mono ?_
  rintro e w4 ⟨y, rfl, hy, ny, g4⟩
  have HY := Lib.hid hy
  have hs4 : W3.heap.size ≤ w4.heap.size := g4.size
  have hylt : ∀ z ∈ nbl LK.bl y.a y.ks, z < w4.heap.size := fun z hz => (ny.2.2 z hz).2.lt
  have hyge : ∀ z ∈ nbl LK.bl y.a y.ks, W3.heap.size ≤ z := fun z hz => by have := (ny.2.2 z hz).1; omega
  clear p0
  have gA : Gw W3 (w4.alloc (.cells #[.slice y.a y.ks.length y.cap] 42)) := g4.alloc _
  replace B0 := B0.grow gA
  replace B4 := B4.grow gA
  have B5 := BoxB.new w4 y 42
  have V4 := gNewSl.grow coLen coGr V3 gA
  have Y4 := gNewSl.grow coLen coGr ny ((Gw.refl w4).alloc (.cells #[.slice y.a y.ks.length y.cap] 42))
  replace gW := gW.trans gA
  have hz4 : (w4.alloc (.cells #[.slice y.a y.ks.length y.cap] 42)).heap.size = w4.heap.size + 1 := by simp
  clear gA g4 ny hy V3
  go_upto_region 7 with (fail)
  generalize w4.alloc (.cells #[.slice y.a y.ks.length y.cap] 42) = W4 at *
  have p0 := B5.c
  go_wp2_with fail
  refine (impl_eraseBook y _ Y4.1 (TB.out.grow gW)).mono ?_
  rw [HY.out]
  rintro e w5 ⟨u, rfl, hu, nu, g5⟩
  have HU := Lib.hid hu
  have hs5 : W4.heap.size ≤ w5.heap.size := g5.size
  have hult : ∀ z ∈ nbl LK.bl u.a u.ks, z < w5.heap.size := fun z hz => (nu.2.2 z hz).2.lt
  have huge : ∀ z ∈ nbl LK.bl u.a u.ks, W4.heap.size ≤ z := fun z hz => by have := (nu.2.2 z hz).1; omega
  clear p0
  have gA : Gw W4 (w5.alloc (.cells #[.slice u.a u.ks.length u.cap] 42)) := g5.alloc _
  replace B0 := B0.grow gA
  replace B4 := B4.grow gA
  replace B5 := B5.grow gA
  have B6 := BoxB.new w5 u 42
  have V5 := gNewSl.grow coLen coGr V4 gA
  have Y5 := gNewSl.grow coLen coGr Y4 gA
  have U5 := gNewSl.grow coLen coGr nu ((Gw.refl w5).alloc (.cells #[.slice u.a u.ks.length u.cap] 42))
  replace gW := gW.trans gA
  have hz5 : (w5.alloc (.cells #[.slice u.a u.ks.length u.cap] 42)).heap.size = w5.heap.size + 1 := by simp
  clear gA g5 nu hu V4 Y4
  go_upto_region 8 with (fail)
  generalize w5.alloc (.cells #[.slice u.a u.ks.length u.cap] 42) = W5 at *
  have hneq : (ebCd a0.cs != ebCd a0.cs) = false := by simp
  have p0 := B6.c
  have q0 := B4.c
  go_wp2_with fail
  refine (laws_eqBook u v _ U5.1 V5.1 (HU.out.trans HV.out.symm)).mono ?_
  rintro e w6 ⟨rfl, g6⟩
  replace gW := gW.trans g6
  replace B0 := B0.grow g6
  replace B4 := B4.grow g6
  replace B5 := B5.grow g6
  replace B6 := B6.grow g6
  have V6 := gNewSl.grow coLen coGr V5 g6
  have Y6 := gNewSl.grow coLen coGr Y5 g6
  have U6 := gNewSl.grow coLen coGr U5 g6
  have hs6 : W5.heap.size ≤ w6.heap.size := g6.size
  clear p0 q0 V5 Y5 U5 g6
  go_wp2_with fail
  have q0 := B5.c
  have p0 := B0.c
  have lX := B5.lt
  have lA := B0.lt
  have o6 : bOk w6.drew a0 := bOk.grow (u := a0) O0.out gW.drew
  have y6 : bOk w6.drew y := bOk.grow (u := y) Y6.1 (Gw.refl w6).drew
  go_region_held3 (fun W => W.cell? ⟨w4.heap.size, 0, none⟩ = some (.slice y.a y.ks.length y.cap) ∧ W.cell? ⟨w.heap.size, 0, none⟩ = some (.slice a0.a a0.ks.length a0.cap))
    (first | exact ⟨q0, p0⟩ | exact ⟨(k6 _ _ lX).trans q0, (k6 _ _ lA).trans p0⟩ | exact ⟨(k7 _ _ lX).trans q0, (k7 _ _ lA).trans p0⟩)
    (first
      | (go_at_call 30; refine (laws_toBook a0 _ (by exact o6) hz).mono ?_; rintro e w7 ⟨z, rfl, hz', nz, g7⟩; have HZ := Lib.hid hz'; clear hz'; have k6 : ∀ b o, b < w6.heap.size → w7.cell? ⟨b, o, none⟩ = w6.cell? ⟨b, o, none⟩ := fun b o h => (bcell g7).1 b o h)
      | (go_at_call 32; refine (laws_eqBook y z _ (by exact bOk.grow (u := y) y6 g7) nz.1 (by rw [HY.out, HZ.out])).mono ?_; rintro e w8 ⟨rfl, g8⟩; have k7 : ∀ b o, b < w6.heap.size → w8.cell? ⟨b, o, none⟩ = w6.cell? ⟨b, o, none⟩ := fun b o h => ((bcell g8).1 b o (Nat.lt_of_lt_of_le h g7.size)).trans (k6 b o h)))
  have gA : Gw w6 w8 := ((Gw.refl w6).drew.trans g7).trans g8
  replace B0 := B0.grow gA
  replace B4 := B4.grow gA
  replace B5 := B5.grow gA
  replace B6 := B6.grow gA
  have V8 := gNewSl.grow coLen coGr V6 gA
  have Y8 := gNewSl.grow coLen coGr Y6 gA
  have U8 := gNewSl.grow coLen coGr U6 gA
  replace gW := gW.trans gA
  have hs8 : w6.heap.size ≤ w8.heap.size := gA.size
  clear gA g7 g8 k6 k7 o6 y6 lX lA p0 q0 V6 Y6 U6 HZ nz
  have q0 := B5.c
  go_wp2_with fail
  have hcy : 1 + mcs y.ks ≤ 8000000 := mcb_like HY.out hz
  have HCU := Lib.hid (show 1 + mcs u.ks ≤ 8000000 from eb_mcs HU.out)
  have keyM := laws_markB y _ w8 1 Y8 (Nat.le_refl _) hcy
  rw [show ((1 : Nat) : Int) = 1 from rfl] at keyM
  refine keyM.mono ?_
  clear keyM hcy q0
  rintro e w9 ⟨rfl, _, hc⟩
  have hs9 : w8.heap.size ≤ w9.heap.size := hc.2.2.2.1
  replace B0 := B0.chg hc (fun hm => by have := hyge _ hm; omega)
  replace B4 := B4.chg hc (fun hm => by have := hyge _ hm; omega)
  replace B6 := B6.chg hc (fun hm => by have := hylt _ hm; omega)
  have V9 := newB_chg V8 hc (fun b hb hm => by have := hvlt _ hb; have := hyge _ hm; omega)
  have U9 := newB_chg U8 hc (fun b hb hm => by have := huge _ hb; have := hylt _ hm; omega)
  replace gW : Gw w w9 := Below.trans gW (hc.gw (by omega) (fun b hb hm => by have := hyge _ hm; omega))
  clear hc B5 V8 U8 Y8
  generalize (mkc y.ks 1).2 = qk at *
  have hqk : ¬ ((qk : Nat) : Int) < 0 := by omega
  have p0 := B6.c
  have q0 := B4.c
  go_wp2_with fail
  refine (laws_eqBook u v _ U9.1 V9.1 (HU.out.trans HV.out.symm)).mono ?_
  rintro e w10 ⟨rfl, g10⟩
  replace gW := gW.trans g10
  replace B0 := B0.grow g10
  replace B4 := B4.grow g10
  replace B6 := B6.grow g10
  have V10 := gNewSl.grow coLen coGr V9 g10
  have U10 := gNewSl.grow coLen coGr U9 g10
  have hs10 : w9.heap.size ≤ w10.heap.size := g10.size
  clear p0 q0 V9 U9 g10 hqk
  have p0 := B6.c
  go_wp2_with fail
  have keyM := laws_markB u _ w10 1 U10 (Nat.le_refl _) HCU.out
  rw [show ((1 : Nat) : Int) = 1 from rfl] at keyM
  refine keyM.mono ?_
  clear keyM p0
  rintro e w11 ⟨rfl, SL, hc⟩
  have hs11 : w10.heap.size ≤ w11.heap.size := hc.2.2.2.1
  replace B0 := B0.chg hc (fun hm => by have := huge _ hm; omega)
  replace B4 := B4.chg hc (fun hm => by have := huge _ hm; omega)
  replace B6 := B6.chg hc (fun hm => by have := hult _ hm; omega)
  have V11 := newB_chg V10 hc (fun b hb hm => by have := hvlt _ hb; have := huge _ hm; omega)
  replace gW : Gw w w11 := Below.trans gW (hc.gw (by omega) (fun b hb hm => by have := huge _ hm; omega))
  have HKH := Lib.hid (show ∀ W : World, Gw w11 W → Calls Tryd.prog 46 #[u.val, .int .i64 1] W (HdN W (mkc u.ks 1).2) from fun W g => laws_heldB u W 1 (gSl.grow coLen coGr SL.1 g) (Nat.le_refl _) HCU.out)
  clear hc V10 U10 SL
  generalize (mkc u.ks 1).2 = qm at *
  have hqm : ¬ ((qm : Nat) : Int) < 0 := by omega
  have p0 := B6.c
  go_wp2_with fail
  refine (HKH.out w11 (Gw.refl _)).mono ?_
  rintro e w12 ⟨rfl, g12⟩
  replace gW := gW.trans g12
  replace B0 := B0.grow g12
  replace B4 := B4.grow g12
  replace B6 := B6.grow g12
  have V12 := gNewSl.grow coLen coGr V11 g12
  clear p0 V11
  have p0 := B0.c
  go_wp2_with fail
  refine (laws_toBook a0 _ (bOk.grow (u := a0) O0.out gW) hz).mono ?_
  rintro e w13 ⟨z2, rfl, hz2, nz, g13⟩
  have HZ2 := Lib.hid hz2
  clear hz2 p0
  go_wp2_with fail
  refine (impl_eraseBook z2 _ nz.1 (TB.out.grow (gW.trans g13))).mono ?_
  rw [HZ2.out]
  rintro e w14 ⟨h, rfl, hh, nh, g14⟩
  have HH := Lib.hid hh
  clear hh
  have gA : Gw w12 (w14.alloc (.cells #[.slice h.a h.ks.length h.cap] 42)) := (g13.trans g14).alloc _
  replace B4 := B4.grow gA
  replace B6 := B6.grow gA
  have B9 := BoxB.new w14 h 42
  have V14 := gNewSl.grow coLen coGr V12 gA
  have H14 := gNewSl.grow coLen coGr nh ((Gw.refl w14).alloc (.cells #[.slice h.a h.ks.length h.cap] 42))
  replace gW := gW.trans gA
  have g1114 := g12.trans gA
  clear gA g13 g14 nz nh V12 B0 g12
  go_upto_region 25 with (fail)
  generalize w14.alloc (.cells #[.slice h.a h.ks.length h.cap] 42) = W14 at *
  have p0 := B9.c
  have q0 := B4.c
  go_wp2_with fail
  refine (laws_eqBook h v _ H14.1 V14.1 (HH.out.trans HV.out.symm)).mono ?_
  rintro e w15 ⟨rfl, g15⟩
  replace gW := gW.trans g15
  replace B6 := B6.grow g15
  have g1115 := g1114.trans g15
  clear p0 q0 V14 H14 B4 B9 g15 g1114
  have p0 := B6.c
  go_wp2_with fail
  refine (HKH.out w15 g1115).mono ?_
  rintro e w16 ⟨rfl, g16⟩
  clear p0
  go_wp2_with fail
  go_ret
  exact ⟨rfl, gW.trans g16⟩

set_option maxRecDepth 100000 in
theorem lifted (os : Os) (started : os.Started) (H : Type) (enc : TypeId × Value → H) :
    ReturnsInHanded {} Tryd.checked os 13 .any (fun w args => (Rows.fnExactEraseBookSpec.pre enc Tryd.prog Tryd.f13 Rows.fnExactEraseBookRow.domain false w args ∧ laidMetH Tryd.prog Rows.fnExactEraseBookRow.laid w) ∧ sizedMet enc Tryd.prog Tryd.f13 (OpenSpec.ofChange Rows.fnExactEraseBookSpec) false w args)
      (Rows.fnExactEraseBookSpec.post enc Tryd.prog Tryd.f13 false true false false) := by
  refine returnsInHanded_of_change_and (C := Tryd.checked) (X := fun w _ => laidMetH Tryd.prog Rows.fnExactEraseBookRow.laid w) (fun _ _ _ hh h => h.of_heap hh) own started (by kernel_rfl) Tryd.func13
    (ChangeSpec.witness_shaped (enc := enc) (C := Tryd.checked) (os := os) (X := fun w _ => laidMetH Tryd.prog Rows.fnExactEraseBookRow.laid w) false (World.laidAll Tryd.prog os Rows.fnExactEraseBookRow.laid) #[.agg #[.slice none 0 0]] 8 (World.laidAll_os _ _ _)
      (World.shaped_of_ZipB (by kernel_rfl) (by kernel_rfl)) (by kernel_rfl) (by kernel_rfl) (by kernel_rfl)
      (by rw [MakeChecks.laidMetH_plain _ _ _ (by kernel_rfl)]; exact laidMet_laidAll _ (by kernel_rfl) (by kernel_rfl))) ?_
  intro W base args ds gs before hval0 hW _ _ hT _
  have hval : ∀ (j : Nat) t v, Tryd.f13.params[j]? = some t → args[j]? = some v → Value.okWide Tryd.prog W .any base t v := hval0
  have hW' := hW
  obtain ⟨p, q, hA0, hV0, rfl, hfz, hnd⟩ := hW
  have hA : DataW.TrodAll enc Tryd.prog W 0 (fun _ => true) true Tryd.f13.params.toList args.toList ds p := hA0
  rw [Tryd.params13] at hA hval
  obtain ⟨v0, vs0, d0, ds0, p0, q0, hargs, rfl, rfl, h0, r0⟩ := trodAll_cons hA
  obtain ⟨rfl, rfl, rfl⟩ := trodAll_nil r0
  obtain rfl : args = #[v0] := by cases args; simp_all
  obtain ⟨a0, rfl, w0⟩ := open_book (hval 0 38 v0 rfl rfl) h0
  obtain ⟨g0, rfl⟩ : ∃ g0, gs = [g0] := by
    obtain ⟨g, t, cs, fuel, d, p', rfl, _⟩ := trodVars_one hV0
    exact ⟨d, rfl⟩
  refine (walk W a0 w0 hT).mono fun e W' ⟨he, hg⟩ => ?_
  subst he
  exact ⟨_, rfl, post_law laidOut (by kernel_rfl) (by kernel_rfl) rfl Tryd.underlying4 hW' hg rfl⟩

theorem holds : Rows.FnExactEraseBookSaid :=
  OpenClaim.holds_of_wide 13 Tryd.f13 rfl rfl rfl rfl rfl rfl rfl ⟨rfl, rfl, rfl, rfl, rfl⟩ rfl rfl rfl rfl rfl (by kernel_rfl) Tryd.func13 (by kernel_rfl)
    (of_decide_eq_true (by kernel_rfl)) (by unfold Func.isWrapper; first | (rw [if_pos (by decide +kernel)]; kernel_rfl) | (rw [if_neg (by decide +kernel)]; exact ⟨rfl, rfl⟩))
    (fun os started H enc _ => lifted os started H enc)

/-- The given statement: the tied card. -/
theorem proved : Rows.FnExactEraseBookCardSaid :=
  Claim7.holds_tied_plain_at .later [] [.data] true Rows.fnExactEraseBookCard.stood.harness Rows.fnExactEraseBookCard.stood.looks holds (fun _ h => by cases h) (by kernel_rfl) (fun _ h => by cases h) fnExactEraseBook_row_tie rfl ⟨rfl, rfl⟩ (by kernel_rfl) rfl
    (fun f fn hf hfn => by
      obtain rfl : f = 13 := Option.some.inj ((show Tryd.prog.funcNamed Rows.fnExactEraseBookRow.func = some 13 by kernel_rfl).symm.trans hf) |>.symm
      obtain rfl : fn = Tryd.f13 := (Option.some.inj (Tryd.func13.symm.trans hfn)).symm
      exact ⟨by kernel_rfl, fun j t ht => by
        rw [Tryd.params13] at ht
        have hm : t ∈ [38] := by simpa using Array.mem_of_getElem? ht
        have hall : ([38].all fun u => !Tryd.prog.wantsStandIn u) = true := by kernel_rfl
        exact (show Tryd.prog.wantsStandIn t = false by simpa using List.all_eq_true.1 hall t hm)⟩)
    (by kernel_rfl)
#print axioms proved
end Go.Proofs.YtfbgkbgoooepmaaDoor.fnExactEraseBook
