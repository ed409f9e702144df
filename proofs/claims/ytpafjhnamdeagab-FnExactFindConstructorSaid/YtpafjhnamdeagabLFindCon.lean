/-
  Proved: for all declarations and names the law FnExactFindConstructor returns true and leaves its arguments as they were. No condition.
-/
import Derived.Test.YtpafjhnamdeagabDaConI
import Derived.Test.YtpafjhnamdeagabDaSz
import Derived.Test.YtpafjhnamdeagabDaEq
namespace Go.Proofs.Ytpafjhnamdeagab.fnExactFindConstructor
open Go.ChangeShapes Go.WideShapes Go.ChangeAt Go.RowKit Con
set_option linter.unusedVariables false
open Go.ChangeMaps (open_string shut_string)
theorem own : ownKnob Try.prog.godebug = none := by kernel_rfl
theorem laidOut : laidOutB Try.prog = true := by kernel_rfl

set_option maxHeartbeats 4000000 in
theorem walk (w : World) (a0 : Option Addr) (c0 : Nat) (l0 : List LD) (w0 : dsOk w a0 c0 l0) (a1 : ByteArray) (w1 : a1.size ≤ maxLen) :
    Calls Try.prog 4 #[.slice a0 l0.length c0, .string a1] w fun e w' => e = .returned (.bool true) ∧ Gw w w' := by
  have hn1 : a1.size ≤ 9223372036854775807 := w1
  by_cases hns : 1048576 < a1.size
  · go_enter Try.func4, Try.ntmps4
    go_wp2_with fail
    go_ret
    exact ⟨rfl, Gw.refl _⟩
  by_cases hsz : 1048576 < sm dsz l0
  · have HS := Lib.hid (show szR 1048576 (sm dsz l0) = -1 from if_neg (by omega))
    go_enter Try.func4, Try.ntmps4
    go_wp2_with fail
    refine (laws_szDataS l0 _ a0 c0 _ w0 (by omega) (by omega)).mono ?_
    rintro e wa ⟨he, g1⟩
    rw [HS.out] at he
    subst he
    go_wp2_with fail
    go_ret
    exact ⟨rfl, g1⟩
  · have HS := Lib.hid (show szR 1048576 (sm dsz l0) = 1048576 - (sm dsz l0) from if_pos (by omega))
    go_enter Try.func4, Try.ntmps4
    go_wp2_with fail
    refine (laws_szDataS l0 _ a0 c0 _ w0 (by omega) (by omega)).mono ?_
    rintro e wa ⟨he, g1⟩
    rw [HS.out] at he
    subst he
    have hp : (0 : Int) ≤ 1048576 - (sm dsz l0) := by omega
    have hz : sm dsz l0 ≤ 1048576 := by omega
    have G := Lib.hid g1
    clear g1
    go_wp2_with fail
    refine (laws_toDataS l0 _ a0 c0 (dsOk.grow w0 G.out) hz).mono ?_
    rintro e w2 ⟨x, ax, cx, rfl, hx, nx, g2⟩
    have HX := Lib.hid hx
    clear hx
    replace G := Lib.hid (G.out.trans g2)
    have KEY := Lib.hid (spec_fc x a1 w2 ax cx nx.1)
    clear nx g2
    go_wp2_with fail
    refine KEY.out.mono ?_
    rw [HX.out]
    rintro e w3 ⟨r, t, ok, rfl, hr, g3⟩
    have HR := Lib.hid hr
    clear hr
    replace G := Lib.hid (G.out.trans g3)
    clear KEY HX g3
    go_wp2_with fail
    refine (laws_toDataS l0 _ a0 c0 (dsOk.grow w0 G.out) hz).mono ?_
    rintro e w4 ⟨y, ay, cy, rfl, hy, ny, g4⟩
    have HY := Lib.hid hy
    have NY := Lib.hid ny.1
    replace G := Lib.hid (G.out.trans g4)
    have KEY := Lib.hid (impl_fc y a1 w4 ay cy ny.1)
    clear ny g4 hy
    go_wp2_with fail
    refine KEY.out.mono ?_
    rw [HY.out]
    rintro e w5 ⟨r', t', ok', rfl, hr, g5⟩
    obtain ⟨rfl, rfl, rfl⟩ := hr.uniq HR.out
    clear hr HR
    replace G := Lib.hid (G.out.trans g5)
    replace NY := Lib.hid (dsOk.grow NY.out g5)
    clear KEY g5
    have hneq : (r' != r') = false := by simp
    have hneq3 : (t' != t') = false := by simp
    have hneq2 : (ok' != ok') = false := by simp
    go_wp2_with fail
    refine (laws_toDataS l0 _ a0 c0 (dsOk.grow w0 G.out) hz).mono ?_
    rintro e w6 ⟨z, az, cz, rfl, hzz, nz, g6⟩
    have HZ := Lib.hid hzz
    have NZ := Lib.hid nz.1
    replace G := Lib.hid (G.out.trans g6)
    replace NY := Lib.hid (dsOk.grow NY.out g6)
    have hlen : z.length = y.length := by
      have := congrArg List.length (HZ.out.trans HY.out.symm)
      simpa using this
    have KEY := Lib.hid (laws_eqDataS y z w6 y.length rfl hlen ay az cy cz NY.out NZ.out (HY.out.trans HZ.out.symm))
    clear nz g6 hzz hneq hneq2 hneq3
    rw [hlen]
    go_wp2_with fail
    refine KEY.out.mono ?_
    rintro e w7 ⟨rfl, g7⟩
    go_wp2_with fail
    go_ret
    exact ⟨rfl, G.out.trans g7⟩

set_option maxRecDepth 100000 in
theorem lifted (os : Os) (started : os.Started) (H : Type) (enc : TypeId × Value → H) :
    ReturnsInHanded {} Try.checked os 4 .any (Rows.fnExactFindConstructorSpec.pre6 enc Try.prog Try.f4 Rows.fnExactFindConstructorRow.domain false) (Rows.fnExactFindConstructorSpec.post enc Try.prog Try.f4 false true false false) := by
  refine returnsInHanded_of_change (C := Try.checked) own started (by kernel_rfl) Try.func4
    (ChangeSpec.witness6 (enc := enc) (C := Try.checked) false ⟨#[], #[.slice none 0 0, .string ⟨#[]⟩], []⟩ 8 (by kernel_rfl) (by kernel_rfl) (by kernel_rfl) (by kernel_rfl)) ?_
  intro W base args ds gs before hval0 hW _ _
  have hval : ∀ (j : Nat) t v, Try.f4.params[j]? = some t → args[j]? = some v → Value.okWide Try.prog W .any base t v := hval0
  have hW' := hW
  obtain ⟨p, q, hA0, hV0, rfl, hfz, hnd⟩ := hW
  have hA : DataW.TrodAll enc Try.prog W 0 (fun _ => true) true Try.f4.params.toList args.toList ds p := hA0
  rw [Try.params4] at hA hval
  obtain ⟨v0, vs0, d0, ds0, p0, q0, hargs, rfl, rfl, h0, r0⟩ := trodAll_cons hA
  obtain ⟨v1, vs1, d1, ds1, p1, q1, rfl, rfl, rfl, h1, r1⟩ := trodAll_cons r0
  obtain ⟨rfl, rfl, rfl⟩ := trodAll_nil r1
  obtain rfl : args = #[v0, v1] := by cases args; simp_all
  obtain ⟨a0, c0, l0, rfl, w0⟩ := open_datas (hval 0 32 v0 rfl rfl) h0
  obtain ⟨a1, rfl, rfl, rfl, w1⟩ := open_string Try.underlying9 (hval 1 9 v1 rfl rfl) h1
  obtain ⟨rfl, rfl⟩ := trodVars_none hV0
  refine (walk W a0 c0 l0 w0 a1 w1).mono fun e W' ⟨he, hg⟩ => ?_
  subst he
  exact ⟨_, rfl, post_law laidOut (by kernel_rfl) (by kernel_rfl) rfl Try.underlying4 hW' hg rfl⟩

theorem proved : Rows.FnExactFindConstructorSaid :=
  OpenClaim.holds_of_wide 4 Try.f4 rfl rfl rfl rfl rfl rfl rfl ⟨rfl, rfl, rfl, rfl, rfl⟩ rfl rfl rfl rfl rfl (by kernel_rfl) Try.func4 (by kernel_rfl)
    (of_decide_eq_true (by kernel_rfl)) (by unfold Func.isWrapper; first | (rw [if_pos (by decide +kernel)]; kernel_rfl) | (rw [if_neg (by decide +kernel)]; exact ⟨rfl, rfl⟩))
    (fun os started H enc _ => lifted os started H enc)
#print axioms proved
end Go.Proofs.Ytpafjhnamdeagab.fnExactFindConstructor
