/-
  Proved: for all declarations the law FnExactValidDatas returns true and leaves its argument as it was. No condition.
-/
import Derived.Test.YtdlbhjkkgiaidaaDaLaw
import Derived.Test.YtdlbhjkkgiaidaaDaSz
import Derived.Test.YtdlbhjkkgiaidaaDaEq
namespace Go.Proofs.Ytdlbhjkkgiaidaa.fnExactValidDatas
open Go.ChangeShapes Go.WideShapes Go.ChangeAt Go.RowKit Con
set_option linter.unusedVariables false
theorem own : ownKnob Try.prog.godebug = none := by kernel_rfl
theorem laidOut : laidOutB Try.prog = true := by kernel_rfl

set_option maxHeartbeats 4000000 in
theorem walk (w : World) (a0 : Option Addr) (c0 : Nat) (l0 : List LD) (w0 : dsOk w a0 c0 l0) :
    Calls Try.prog 9 #[.slice a0 l0.length c0] w fun e w' => e = .returned (.bool true) ∧ Gw w w' := by
  by_cases hsz : 1048576 < sm dsz l0
  · have HS := Lib.hid (show szR 1048576 (sm dsz l0) = -1 from if_neg (by omega))
    go_enter Try.func9, Try.ntmps9
    go_wp2_with fail
    refine (laws_szDataS l0 _ a0 c0 _ w0 (by omega) (by omega)).mono ?_
    rintro e w1 ⟨he, g1⟩
    rw [HS.out] at he
    subst he
    go_wp2_with fail
    go_ret
    exact ⟨rfl, g1⟩
  · have HS := Lib.hid (show szR 1048576 (sm dsz l0) = 1048576 - (sm dsz l0) from if_pos (by omega))
    go_enter Try.func9, Try.ntmps9
    go_wp2_with fail
    refine (laws_szDataS l0 _ a0 c0 _ w0 (by omega) (by omega)).mono ?_
    rintro e w1 ⟨he, g1⟩
    rw [HS.out] at he
    subst he
    have hp : (0 : Int) ≤ 1048576 - (sm dsz l0) := by omega
    have hz : sm dsz l0 ≤ 1048576 := by omega
    have G := Lib.hid g1
    clear g1
    go_wp2_with fail
    refine (laws_toDataS l0 _ a0 c0 (dsOk.grow w0 G.out) hz).mono ?_
    rintro e w2 ⟨x, ax, cx, rfl, hx, nx, g2⟩
    have HX := Lib.hid hx
    clear hx
    replace G := Lib.hid (G.out.trans g2)
    have KEY := Lib.hid (spec_vd x w2 ax cx nx.1)
    clear nx g2
    go_wp2_with fail
    refine KEY.out.mono ?_
    rw [HX.out]
    rintro e w3 ⟨rfl, g3⟩
    replace G := Lib.hid (G.out.trans g3)
    clear KEY HX g3
    go_wp2_with fail
    refine (laws_toDataS l0 _ a0 c0 (dsOk.grow w0 G.out) hz).mono ?_
    rintro e w4 ⟨y, ay, cy, rfl, hy, ny, g4⟩
    have HY := Lib.hid hy
    have NY := Lib.hid ny.1
    replace G := Lib.hid (G.out.trans g4)
    have KEY := Lib.hid (impl_ok y w4 ay cy ny.1)
    clear ny g4 hy
    go_wp2_with fail
    refine KEY.out.mono ?_
    rw [HY.out]
    rintro e w5 ⟨rfl, g5⟩
    replace G := Lib.hid (G.out.trans g5)
    replace NY := Lib.hid (dsOk.grow NY.out g5)
    clear KEY g5
    have hneq : (datasB (l0.map dty) != datasB (l0.map dty)) = false := by simp
    go_wp2_with fail
    refine (laws_toDataS l0 _ a0 c0 (dsOk.grow w0 G.out) hz).mono ?_
    rintro e w6 ⟨z, az, cz, rfl, hzz, nz, g6⟩
    have HZ := Lib.hid hzz
    have NZ := Lib.hid nz.1
    replace G := Lib.hid (G.out.trans g6)
    replace NY := Lib.hid (dsOk.grow NY.out g6)
    have hlen : z.length = y.length := by
      have := congrArg List.length (HZ.out.trans HY.out.symm)
      simpa using this
    have KEY := Lib.hid (laws_eqDataS y z w6 y.length rfl hlen ay az cy cz NY.out NZ.out (HY.out.trans HZ.out.symm))
    clear nz g6 hzz hneq
    rw [hlen]
    go_wp2_with fail
    refine KEY.out.mono ?_
    rintro e w7 ⟨rfl, g7⟩
    go_wp2_with fail
    go_ret
    exact ⟨rfl, G.out.trans g7⟩

set_option maxRecDepth 100000 in
theorem lifted (os : Os) (started : os.Started) (H : Type) (enc : TypeId × Value → H) :
    ReturnsInHanded {} Try.checked os 9 .any (Rows.fnExactValidDatasSpec.pre6 enc Try.prog Try.f9 Rows.fnExactValidDatasRow.domain false) (Rows.fnExactValidDatasSpec.post enc Try.prog Try.f9 false true false false) := by
  refine returnsInHanded_of_change (C := Try.checked) own started (by kernel_rfl) Try.func9
    (ChangeSpec.witness6 (enc := enc) (C := Try.checked) false ⟨#[], #[.slice none 0 0], []⟩ 8 (by kernel_rfl) (by kernel_rfl) (by kernel_rfl) (by kernel_rfl)) ?_
  intro W base args ds gs before hval0 hW _ _
  have hval : ∀ (j : Nat) t v, Try.f9.params[j]? = some t → args[j]? = some v → Value.okWide Try.prog W .any base t v := hval0
  have hW' := hW
  obtain ⟨p, q, hA0, hV0, rfl, hfz, hnd⟩ := hW
  have hA : DataW.TrodAll enc Try.prog W 0 (fun _ => true) true Try.f9.params.toList args.toList ds p := hA0
  rw [Try.params9] at hA hval
  obtain ⟨v0, vs0, d0, ds0, p0, q0, hargs, rfl, rfl, h0, r0⟩ := trodAll_cons hA
  obtain ⟨rfl, rfl, rfl⟩ := trodAll_nil r0
  obtain rfl : args = #[v0] := by cases args; simp_all
  obtain ⟨a0, c0, l0, rfl, w0⟩ := open_datas (hval 0 40 v0 rfl rfl) h0
  obtain ⟨rfl, rfl⟩ := trodVars_none hV0
  refine (walk W a0 c0 l0 w0).mono fun e W' ⟨he, hg⟩ => ?_
  subst he
  exact ⟨_, rfl, post_law laidOut (by kernel_rfl) (by kernel_rfl) rfl Try.underlying4 hW' hg rfl⟩

theorem proved : Rows.FnExactValidDatasSaid :=
  OpenClaim.holds_of_wide 9 Try.f9 rfl rfl rfl rfl rfl rfl rfl ⟨rfl, rfl, rfl, rfl, rfl⟩ rfl rfl rfl rfl rfl (by kernel_rfl) Try.func9 (by kernel_rfl)
    (of_decide_eq_true (by kernel_rfl)) (by unfold Func.isWrapper; first | (rw [if_pos (by decide +kernel)]; kernel_rfl) | (rw [if_neg (by decide +kernel)]; exact ⟨rfl, rfl⟩))
    (fun os started H enc _ => lifted os started H enc)
#print axioms proved
end Go.Proofs.Ytdlbhjkkgiaidaa.fnExactValidDatas
