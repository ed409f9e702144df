/-
  Proved: for all declarations and types the law FnExactKnownType returns true and leaves its arguments as they were. No condition.
-/
import Derived.Test.YtdlbhjkkgiaidaaDaLaw
import Derived.Test.YtdlbhjkkgiaidaaDaSz
import Derived.Test.YtdlbhjkkgiaidaaDaEq
import Derived.Deep.RegionHeld3
import Derived.Deep.Cut
namespace Go.Proofs.Ytdlbhjkkgiaidaa.fnExactKnownType
open Go.ChangeShapes Go.WideShapes Go.ChangeAt Go.RowKit Con
set_option linter.unusedVariables false
theorem own : ownKnob Try.prog.godebug = none := by kernel_rfl
theorem laidOut : laidOutB Try.prog = true := by kernel_rfl

set_option maxHeartbeats 4000000 in
theorem walk (w : World) (a0 : Option Addr) (c0 : Nat) (l0 : List LD) (w0 : dsOk w a0 c0 l0) (a1 : LT) (w1 : a1.Ok w) :
    Calls Try.prog 10 #[.slice a0 l0.length c0, a1.val] w fun e w' => e = .returned (.bool true) ∧ Gw w w' := by
  have gW : Gw w (w.alloc (.cells #[.int .i64 a1.k, .string a1.n, .slice a1.a a1.ks.length a1.cap] 24)) := (Gw.refl w).alloc _
  have BT := Box.new w a1 24
  have oT := Lib.hid (w1.grow gW)
  have G := Lib.hid gW
  clear gW w1
  go_enter Try.func10, Try.ntmps10
  go_upto_region 1 with (fail)
  generalize (w.alloc (.cells #[.int .i64 a1.k, .string a1.n, .slice a1.a a1.ks.length a1.cap] 24)) = wA at *
  go_wp2_with fail
  refine (laws_szDataS l0 _ a0 c0 _ (dsOk.grow w0 G.out) (by omega) (by omega)).mono ?_
  rintro e wB ⟨he, gB⟩
  subst he
  replace BT := BT.grow gB
  replace oT := Lib.hid (oT.out.grow gB)
  replace G := Lib.hid (G.out.trans gB)
  clear gB
  by_cases hsz : 1048576 < sm dsz l0
  · have HS : szR 1048576 (sm dsz l0) = -1 := if_neg (by omega)
    rw [HS]
    go_wp2_with fail
    go_ret
    exact ⟨rfl, G.out⟩
  · have HS : szR 1048576 (sm dsz l0) = 1048576 - (sm dsz l0) := if_pos (by omega)
    rw [HS]
    have hp : ¬ ((1048576 : Int) - (sm dsz l0) < 0) := by omega
    have hz : sm dsz l0 ≤ 1048576 := by omega
    obtain ⟨p0, p1, p2⟩ := BT.c
    clear HS
    go_wp2_with fail
    refine (laws_szType a1 _ _ oT.out (by omega) (by omega)).mono ?_
    rintro e wC ⟨he, gB⟩
    subst he
    replace BT := BT.grow gB
    replace oT := Lib.hid (oT.out.grow gB)
    replace G := Lib.hid (G.out.trans gB)
    clear gB hp p0 p1 p2
    by_cases hsB : (1048576 : Int) - (sm dsz l0) < a1.sz
    · have HS : szR (1048576 - (sm dsz l0)) a1.sz = -1 := if_neg (by omega)
      rw [HS]
      go_wp2_with fail
      go_ret
      exact ⟨rfl, G.out⟩
    · have HS : szR (1048576 - (sm dsz l0)) a1.sz = 1048576 - (sm dsz l0) - a1.sz := if_pos (by omega)
      rw [HS]
      have hp : ¬ ((1048576 : Int) - (sm dsz l0) - a1.sz < 0) := by omega
      have hzT : a1.sz ≤ 1048576 := by omega
      clear HS
      go_upto_region 8 with (fail)
      clear hp hsz hsB
      have lT := BT.lt
      obtain ⟨p0, p1, p2⟩ := BT.c
      have dD : dsOk wC.drew a0 c0 l0 := dsOk.grow w0 G.out.drew
      have dT := oT.out.drew
      go_region_held3 (fun W => W.cell? ⟨w.heap.size, 0, none⟩ = some (.int .i64 a1.k) ∧ W.cell? ⟨w.heap.size, 1, none⟩ = some (.string a1.n) ∧ W.cell? ⟨w.heap.size, 2, none⟩ = some (.slice a1.a a1.ks.length a1.cap))
        (first | exact ⟨p0, p1, p2⟩ | exact ⟨(k2 _ _ lT).trans p0, (k2 _ _ lT).trans p1, (k2 _ _ lT).trans p2⟩ | exact ⟨(k3 _ _ lT).trans p0, (k3 _ _ lT).trans p1, (k3 _ _ lT).trans p2⟩ | exact ⟨(k4 _ _ lT).trans p0, (k4 _ _ lT).trans p1, (k4 _ _ lT).trans p2⟩)
        (first
          | (go_at_call 34; refine (laws_toDataS l0 _ a0 c0 (by exact dD) hz).mono ?_; rintro e w2 ⟨x, ax, cx, rfl, hx, nx, g2⟩; have HX := Lib.hid hx; clear hx; have k2 : ∀ b o, b < wC.heap.size → w2.cell? ⟨b, o, none⟩ = wC.cell? ⟨b, o, none⟩ := fun b o h => (bcell g2).1 b o h)
          | (go_at_call 17; refine (laws_toType a1 _ (by exact dT.grow g2) hzT).mono ?_; rintro e w3 ⟨u, rfl, hu, nu, g3⟩; have HU := Lib.hid hu; clear hu; have k3 : ∀ b o, b < wC.heap.size → w3.cell? ⟨b, o, none⟩ = wC.cell? ⟨b, o, none⟩ := fun b o h => ((bcell g3).1 b o (Nat.lt_of_lt_of_le h g2.size)).trans (k2 b o h))
          | (go_at_call 37; refine (spec_kt x u _ ax cx (dsOk.grow nx.1 g3) nu.1).mono ?_; rintro e w4 ⟨rfl, g4⟩; have k4 : ∀ b o, b < wC.heap.size → w4.cell? ⟨b, o, none⟩ = wC.cell? ⟨b, o, none⟩ := fun b o h => ((bcell g4).1 b o (Nat.lt_of_lt_of_le h (Nat.le_trans g2.size g3.size))).trans (k3 b o h)))
      have hxn : x.map LN.n = l0.map LN.n := by rw [← fst_dty, HX.out, fst_dty]
      rw [HX.out, HU.out, hxn]
      have gA : Gw wC w4 := (((Gw.refl wC).drew.trans g2).trans g3).trans g4
      replace BT := BT.grow gA
      replace oT := Lib.hid (oT.out.grow gA)
      replace G := Lib.hid (G.out.trans gA)
      obtain ⟨rs, hrs⟩ : ∃ rs, rs = (datasB (l0.map dty) && fB (l0.map LN.n) a1.ty) := ⟨_, rfl⟩
      rw [← hrs]
      have RS := Lib.hid hrs
      clear p0 p1 p2 k2 k3 k4 g2 g3 g4 gA HX HU nx nu dD dT lT hxn hrs
      go_wp2_with fail
      refine (laws_toDataS l0 _ a0 c0 (dsOk.grow w0 G.out) hz).mono ?_
      rintro e w5 ⟨y, ay, cy, rfl, hy, ny, g5⟩
      have HY := Lib.hid hy
      have NY := Lib.hid ny.1
      replace BT := BT.grow g5
      replace oT := Lib.hid (oT.out.grow g5)
      replace G := Lib.hid (G.out.trans g5)
      clear hy ny g5
      obtain ⟨p0, p1, p2⟩ := BT.c
      go_wp2_with fail
      refine (laws_toType a1 _ oT.out hzT).mono ?_
      rintro e w6 ⟨v, rfl, hv, nv, g6⟩
      have HV := Lib.hid hv
      clear p0 p1 p2 hv
      go_upto_region 11 with (fail)
      have gA : Gw w5 (w6.alloc (.cells #[.int .i64 v.k, .string v.n, .slice v.a v.ks.length v.cap] 29)) := g6.alloc _
      replace BT := BT.grow gA
      replace oT := Lib.hid (oT.out.grow gA)
      replace G := Lib.hid (G.out.trans gA)
      replace NY := Lib.hid (dsOk.grow NY.out gA)
      have BV := Box.new w6 v 29
      have NV := Lib.hid (nv.1.grow ((Gw.refl w6).alloc (.cells #[.int .i64 v.k, .string v.n, .slice v.a v.ks.length v.cap] 29)))
      clear gA g6 nv
      generalize w6.alloc (.cells #[.int .i64 v.k, .string v.n, .slice v.a v.ks.length v.cap] 29) = W6 at *
      obtain ⟨p0, p1, p2⟩ := BV.c
      go_wp2_with fail
      refine (impl_kt y v W6 ay cy NY.out NV.out).mono ?_
      rintro e w7 ⟨he, g7⟩
      have hyn : y.map LN.n = l0.map LN.n := by rw [← fst_dty, HY.out, fst_dty]
      rw [HY.out, HV.out, hyn, ← RS.out] at he
      subst he
      replace BT := BT.grow g7
      replace oT := Lib.hid (oT.out.grow g7)
      replace G := Lib.hid (G.out.trans g7)
      replace NY := Lib.hid (dsOk.grow NY.out g7)
      replace BV := BV.grow g7
      replace NV := Lib.hid (NV.out.grow g7)
      clear p0 p1 p2 g7 hyn RS
      have hneq : (rs != rs) = false := by simp
      go_wp2_with fail
      refine (laws_toDataS l0 _ a0 c0 (dsOk.grow w0 G.out) hz).mono ?_
      rintro e w8 ⟨z, az, cz, rfl, hzz, nz, g8⟩
      have HZ := Lib.hid hzz
      have hlen : z.length = y.length := by
        have := congrArg List.length (HZ.out.trans HY.out.symm)
        simpa using this
      have KEY := Lib.hid (laws_eqDataS y z w8 y.length rfl hlen ay az cy cz (dsOk.grow NY.out g8) nz.1 (HY.out.trans HZ.out.symm))
      replace BT := BT.grow g8
      replace oT := Lib.hid (oT.out.grow g8)
      replace G := Lib.hid (G.out.trans g8)
      replace BV := BV.grow g8
      replace NV := Lib.hid (NV.out.grow g8)
      clear nz g8 hzz hneq
      rw [hlen]
      go_wp2_with fail
      refine KEY.out.mono ?_
      rintro e w9 ⟨rfl, g9⟩
      replace BT := BT.grow g9
      replace oT := Lib.hid (oT.out.grow g9)
      replace G := Lib.hid (G.out.trans g9)
      replace BV := BV.grow g9
      replace NV := Lib.hid (NV.out.grow g9)
      clear KEY g9 NY HY HZ hlen
      go_upto_region 16 with (fail)
      obtain ⟨p0, p1, p2⟩ := BT.c
      obtain ⟨q0, q1, q2⟩ := BV.c
      have lA := BT.lt
      have lX := BV.lt
      have dA := oT.out.drew
      have dX := NV.out.drew
      go_region_held3 (fun W => W.cell? ⟨w.heap.size, 0, none⟩ = some (.int .i64 a1.k) ∧ W.cell? ⟨w.heap.size, 1, none⟩ = some (.string a1.n) ∧ W.cell? ⟨w.heap.size, 2, none⟩ = some (.slice a1.a a1.ks.length a1.cap) ∧ W.cell? ⟨w6.heap.size, 0, none⟩ = some (.int .i64 v.k) ∧ W.cell? ⟨w6.heap.size, 1, none⟩ = some (.string v.n) ∧ W.cell? ⟨w6.heap.size, 2, none⟩ = some (.slice v.a v.ks.length v.cap))
        (first | exact ⟨p0, p1, p2, q0, q1, q2⟩ | exact ⟨(k2 _ _ lA).trans p0, (k2 _ _ lA).trans p1, (k2 _ _ lA).trans p2, (k2 _ _ lX).trans q0, (k2 _ _ lX).trans q1, (k2 _ _ lX).trans q2⟩ | exact ⟨(k3 _ _ lA).trans p0, (k3 _ _ lA).trans p1, (k3 _ _ lA).trans p2, (k3 _ _ lX).trans q0, (k3 _ _ lX).trans q1, (k3 _ _ lX).trans q2⟩)
        (first
          | (go_at_call 17; refine (laws_toType a1 _ (by exact dA) hzT).mono ?_; rintro e w10 ⟨z, rfl, hz, nz, g8⟩; have HZ := Lib.hid hz; clear hz; have k2 : ∀ b o, b < w9.heap.size → w10.cell? ⟨b, o, none⟩ = w9.cell? ⟨b, o, none⟩ := fun b o h => (bcell g8).1 b o h)
          | (go_at_call 19; refine (laws_eqType v z _ (by exact dX.grow g8) nz.1 (by rw [HV.out, HZ.out])).mono ?_; rintro e w11 ⟨rfl, g9⟩; have k3 : ∀ b o, b < w9.heap.size → w11.cell? ⟨b, o, none⟩ = w9.cell? ⟨b, o, none⟩ := fun b o h => ((bcell g9).1 b o (Nat.lt_of_lt_of_le h g8.size)).trans (k2 b o h)))
      go_wp2_with fail
      go_ret
      exact ⟨rfl, (G.out.drew.trans g8).trans g9⟩

set_option maxRecDepth 100000 in
theorem lifted (os : Os) (started : os.Started) (H : Type) (enc : TypeId × Value → H) :
    ReturnsInHanded {} Try.checked os 10 .any (Rows.fnExactKnownTypeSpec.pre6 enc Try.prog Try.f10 Rows.fnExactKnownTypeRow.domain false) (Rows.fnExactKnownTypeSpec.post enc Try.prog Try.f10 false true false false) := by
  refine returnsInHanded_of_change (C := Try.checked) own started (by kernel_rfl) Try.func10
    (ChangeSpec.witness6 (enc := enc) (C := Try.checked) false ⟨#[], #[.slice none 0 0, .agg #[.int .i64 0, .string ⟨#[]⟩, .slice none 0 0]], []⟩ 8 (by kernel_rfl) (by kernel_rfl) (by kernel_rfl) (by kernel_rfl)) ?_
  intro W base args ds gs before hval0 hW _ _
  have hval : ∀ (j : Nat) t v, Try.f10.params[j]? = some t → args[j]? = some v → Value.okWide Try.prog W .any base t v := hval0
  have hW' := hW
  obtain ⟨p, q, hA0, hV0, rfl, hfz, hnd⟩ := hW
  have hA : DataW.TrodAll enc Try.prog W 0 (fun _ => true) true Try.f10.params.toList args.toList ds p := hA0
  rw [Try.params10] at hA hval
  obtain ⟨v0, vs0, d0, ds0, p0, q0, hargs, rfl, rfl, h0, r0⟩ := trodAll_cons hA
  obtain ⟨v1, vs1, d1, ds1, p1, q1, rfl, rfl, rfl, h1, r1⟩ := trodAll_cons r0
  obtain ⟨rfl, rfl, rfl⟩ := trodAll_nil r1
  obtain rfl : args = #[v0, v1] := by cases args; simp_all
  obtain ⟨a0, c0, l0, rfl, w0⟩ := open_datas (hval 0 40 v0 rfl rfl) h0
  obtain ⟨a1, rfl, w1⟩ := open_type (hval 1 24 v1 rfl rfl) h1
  obtain ⟨rfl, rfl⟩ := trodVars_none hV0
  refine (walk W a0 c0 l0 w0 a1 w1).mono fun e W' ⟨he, hg⟩ => ?_
  subst he
  exact ⟨_, rfl, post_law laidOut (by kernel_rfl) (by kernel_rfl) rfl Try.underlying4 hW' hg rfl⟩

theorem proved : Rows.FnExactKnownTypeSaid :=
  OpenClaim.holds_of_wide 10 Try.f10 rfl rfl rfl rfl rfl rfl rfl ⟨rfl, rfl, rfl, rfl, rfl⟩ rfl rfl rfl rfl rfl (by kernel_rfl) Try.func10 (by kernel_rfl)
    (of_decide_eq_true (by kernel_rfl)) (by unfold Func.isWrapper; first | (rw [if_pos (by decide +kernel)]; kernel_rfl) | (rw [if_neg (by decide +kernel)]; exact ⟨rfl, rfl⟩))
    (fun os started H enc _ => lifted os started H enc)
#print axioms proved
end Go.Proofs.Ytdlbhjkkgiaidaa.fnExactKnownType
