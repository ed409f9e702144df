/-
  Proved: for all declarations the law FnExactInhabitedDatas returns true and leaves its argument as it was. No condition.
-/
import Derived.Test.YtdlbhjkkgiaidaaBools
import Derived.Test.YtdlbhjkkgiaidaaDaMark
import Derived.Test.YtdlbhjkkgiaidaaDaSz
import Derived.Test.YtdlbhjkkgiaidaaDaEq
namespace Go.Proofs.Ytdlbhjkkgiaidaa.fnExactInhabitedDatas
open Go.ChangeShapes Go.WideShapes Go.ChangeAt Go.RowKit Con
set_option linter.unusedVariables false
theorem own : ownKnob Try.prog.godebug = none := by kernel_rfl
theorem laidOut : laidOutB Try.prog = true := by kernel_rfl

set_option maxHeartbeats 4000000 in
theorem walk (w : World) (a0 : Option Addr) (c0 : Nat) (l0 : List LD) (w0 : dsOk w a0 c0 l0) :
    Calls Try.prog 13 #[.slice a0 l0.length c0] w fun e w' => e = .returned (.bool true) ∧ Gw w w' := by
  by_cases hsz : 1048576 < sm dsz l0
  · have HS := Lib.hid (show szR 1048576 (sm dsz l0) = -1 from if_neg (by omega))
    go_enter Try.func13, Try.ntmps13
    go_wp2_with fail
    refine (laws_szDataS l0 _ a0 c0 _ w0 (by omega) (by omega)).mono ?_
    rintro e w1 ⟨he, g1⟩
    rw [HS.out] at he
    subst he
    go_wp2_with fail
    go_ret
    exact ⟨rfl, g1⟩
  · have HS := Lib.hid (show szR 1048576 (sm dsz l0) = 1048576 - (sm dsz l0) from if_pos (by omega))
    go_enter Try.func13, Try.ntmps13
    go_wp2_with fail
    refine (laws_szDataS l0 _ a0 c0 _ w0 (by omega) (by omega)).mono ?_
    rintro e w1 ⟨he, g1⟩
    rw [HS.out] at he
    subst he
    have hp : (0 : Int) ≤ 1048576 - (sm dsz l0) := by omega
    have hz : sm dsz l0 ≤ 1048576 := by omega
    have G := Lib.hid g1
    clear g1
    go_wp2_with fail
    refine (laws_toDataS l0 _ a0 c0 (dsOk.grow w0 G.out) hz).mono ?_
    rintro e w2 ⟨x, ax, cx, rfl, hx, nx, g2⟩
    have HX := Lib.hid hx
    clear hx
    replace G := Lib.hid (G.out.trans g2)
    have KEY := Lib.hid (spec_inh x w2 ax cx nx.1)
    clear nx g2
    go_wp2_with fail
    refine KEY.out.mono ?_
    rw [HX.out]
    rintro e w3 ⟨aw, cw, rfl, hbw, g3⟩
    obtain ⟨R, hR⟩ : ∃ R, R = inhB (l0.map dty) := ⟨_, rfl⟩
    rw [← hR] at hbw ⊢
    replace G := Lib.hid (G.out.trans g3)
    have SZ3 := Lib.hid G.out.size
    have LW := Lib.hid hbw.at
    have HRR := Lib.hid hR
    have h4 : R.length ≤ 4 := by
      rw [hR]
      unfold inhB
      split
      · rename_i hb
        rw [roundsL_len, List.length_replicate]
        exact datasB_len hb
      · exact Nat.zero_le _
    have BW := Lib.hid hbw
    clear KEY HX g3 hR hbw
    go_wp2_with fail
    refine (laws_toDataS l0 _ a0 c0 (dsOk.grow w0 G.out) hz).mono ?_
    rintro e w4 ⟨y, ay, cy, rfl, hy, ny, g4⟩
    have HY := Lib.hid hy
    have NY := Lib.hid ny
    replace G := Lib.hid (G.out.trans g4)
    have BW4 := Lib.hid (BW.out.grow g4)
    have SZ4 := Lib.hid g4.size
    have KEY := Lib.hid (impl_inh y w4 ay cy ny.1)
    clear ny g4 hy
    go_wp2_with fail
    refine KEY.out.mono ?_
    rw [HY.out]
    rintro e w5 ⟨ag, cg, rfl, hbg, g5⟩
    rw [← HRR.out] at hbg ⊢
    have BG := Lib.hid hbg
    replace G := Lib.hid (G.out.trans g5)
    have BW5 := Lib.hid (BW4.out.grow g5)
    have G5 := Lib.hid g5
    clear KEY g5 hbg
    go_wp2_with fail
    refine (laws_eqB R _ rfl _ _ _ ag aw cg cw BG.out BW5.out).mono ?_
    rintro e w6 ⟨rfl, g6⟩
    replace G := Lib.hid (G.out.trans g6)
    replace G5 := Lib.hid (G5.out.trans g6)
    replace BG := Lib.hid (BG.out.grow g6)
    replace BW5 := Lib.hid (BW5.out.grow g6)
    clear g6
    go_wp2_with fail
    refine (laws_toDataS l0 _ a0 c0 (dsOk.grow w0 G.out) hz).mono ?_
    rintro e w7 ⟨z, az, cz, rfl, hzz, nz, g7⟩
    have HZ := Lib.hid hzz
    have NZ := Lib.hid nz.1
    replace G := Lib.hid (G.out.trans g7)
    replace G5 := Lib.hid (G5.out.trans g7)
    replace BG := Lib.hid (BG.out.grow g7)
    replace BW5 := Lib.hid (BW5.out.grow g7)
    have hlen : z.length = y.length := by
      have := congrArg List.length (HZ.out.trans HY.out.symm)
      simpa using this
    have KEY := Lib.hid (laws_eqDataS y z w7 y.length rfl hlen ay az cy cz (dsOk.grow NY.out.1 G5.out) NZ.out (HY.out.trans HZ.out.symm))
    clear nz g7 hzz
    rw [hlen]
    go_wp2_with fail
    refine KEY.out.mono ?_
    rintro e w8 ⟨rfl, g8⟩
    replace G := Lib.hid (G.out.trans g8)
    replace G5 := Lib.hid (G5.out.trans g8)
    replace BG := Lib.hid (BG.out.grow g8)
    replace BW5 := Lib.hid (BW5.out.grow g8)
    clear KEY g8 HZ NZ hlen
    have hmk := smD_small HY.out hz
    have NY8 : NewSl dOk dbl w3.heap.size w8 ay cy y := ⟨dsOk.grow NY.out.1 G5.out, NY.out.2.1, fun b hb => ⟨(NY.out.2.2 b hb).1, (NY.out.2.2 b hb).2.grow G5.out⟩⟩
    have KEY := Lib.hid (laws_markDS y w3.heap.size w8 ay cy 1 NY8 (by omega) hmk)
    have YLT := Lib.hid (show ∀ b ∈ nbl dbl ay y, b < w4.heap.size from fun b hb => (NY.out.2.2 b hb).2.lt)
    have YGE := Lib.hid (show ∀ b ∈ nbl dbl ay y, w3.heap.size ≤ b from fun b hb => (NY.out.2.2 b hb).1)
    clear NY8
    go_wp2_with fail
    refine KEY.out.mono ?_
    rintro e w9 ⟨rfl, hc9⟩
    have G9 := Lib.hid (show Gw w w9 from Below.trans G.out (hc9.gw (B := w.heap.size) G.out.size fun b hb hm => by have := YGE.out b hm; have := SZ3.out; omega))
    have BG9 := Lib.hid (BG.out.keep fun g hg hB hlt _ => hc9.2.2.2.2 g hlt fun hm => by have := YLT.out g hm; omega)
    have BW9 := Lib.hid (BW5.out.keep fun g hg hB hlt hL => hc9.2.2.2.2 g hlt fun hm => by have := YGE.out g hm; have := LW.out g hg hL; omega)
    have hk0 : decide (((1 + sm zD y : Nat) : Int) < 0) = false := decide_eq_false (by omega)
    clear KEY hc9 YLT YGE hmk
    go_wp2_with fail
    refine (laws_eqB R _ rfl _ _ _ ag aw cg cw BG9.out BW9.out).mono ?_
    rintro e w10 ⟨rfl, g10⟩
    replace G9 := Lib.hid (G9.out.trans g10)
    replace BG9 := Lib.hid (BG9.out.grow g10)
    replace BW9 := Lib.hid (BW9.out.grow g10)
    clear g10
    have hk1 : (1 : Nat) ≤ 1000 := by omega
    have KEY := Lib.hid (laws_markB R _ w10 ag cg 1 BG9.out (by omega) hk1)
    clear hk0
    go_wp2_with fail
    refine KEY.out.mono ?_
    rintro e w11 ⟨rfl, hbm, hb11⟩
    have BM := Lib.hid hbm
    have G11 := Lib.hid (show Gw w w11 from Below.trans G9.out (hb11.mono (Nat.le_trans SZ3.out SZ4.out)))
    have BW11 := Lib.hid (BW9.out.keep fun g hg hB hlt hL => hb11.block g (Nat.lt_of_lt_of_le (LW.out g hg hL) SZ4.out))
    clear KEY hbm hb11
    obtain ⟨M, hM⟩ : ∃ M, M = markTo 1 R R.length := ⟨_, rfl⟩
    rw [← hM] at BM
    have hML : M.length = R.length := by rw [hM, markTo_len]
    have HM := Lib.hid (show ∀ i, i < M.length → M[i]? = some (((1 + i : Nat) : Int) % 3 == 0) from fun i hi => by rw [hM]; exact markTo_get 1 R R.length i (by omega) (Nat.le_refl _))
    have KEY := Lib.hid (laws_heldB M _ w11 ag cg 1 BM.out (by omega) hk1 HM.out)
    rw [hML] at KEY
    clear hM
    go_wp2_with fail
    refine KEY.out.mono ?_
    rintro e w12 ⟨rfl, g12⟩
    replace G11 := Lib.hid (G11.out.trans g12)
    replace BW11 := Lib.hid (BW11.out.grow g12)
    replace BM := Lib.hid (BM.out.grow g12)
    clear KEY g12
    have hq : decide ((1 : Int) + R.length < 0) = false := decide_eq_false (by omega)
    go_wp2_with fail
    refine (laws_toDataS l0 _ a0 c0 (dsOk.grow w0 G11.out) hz).mono ?_
    rintro e w13 ⟨z2, az2, cz2, rfl, hz2, nz2, g13⟩
    have HZ2 := Lib.hid hz2
    replace G11 := Lib.hid (G11.out.trans g13)
    replace BW11 := Lib.hid (BW11.out.grow g13)
    replace BM := Lib.hid (BM.out.grow g13)
    have KEY := Lib.hid (impl_inh z2 w13 az2 cz2 nz2.1)
    clear g13 hz2 nz2 hq
    go_wp2_with fail
    refine KEY.out.mono ?_
    rw [HZ2.out]
    rintro e w14 ⟨ah, ch, rfl, hbh, g14⟩
    rw [← HRR.out] at hbh ⊢
    have BH := Lib.hid hbh
    replace G11 := Lib.hid (G11.out.trans g14)
    replace BW11 := Lib.hid (BW11.out.grow g14)
    replace BM := Lib.hid (BM.out.grow g14)
    clear g14 hbh KEY
    go_wp2_with fail
    refine (laws_eqB R _ rfl _ _ _ ah aw ch cw BH.out BW11.out).mono ?_
    rintro e w15 ⟨rfl, g15⟩
    replace G11 := Lib.hid (G11.out.trans g15)
    replace BM := Lib.hid (BM.out.grow g15)
    have KEY := Lib.hid (laws_heldB M _ w15 ag cg 1 BM.out (by omega) hk1 HM.out)
    rw [hML] at KEY
    clear g15
    go_wp2_with fail
    refine KEY.out.mono ?_
    rintro e w16 ⟨rfl, g16⟩
    replace G11 := Lib.hid (G11.out.trans g16)
    clear g16 KEY
    have hq : decide ((1 : Int) + R.length < 0) = false := decide_eq_false (by omega)
    go_wp2_with fail
    go_ret
    exact ⟨rfl, G11.out⟩

set_option maxRecDepth 100000 in
theorem lifted (os : Os) (started : os.Started) (H : Type) (enc : TypeId × Value → H) :
    ReturnsInHanded {} Try.checked os 13 .any (Rows.fnExactInhabitedDatasSpec.pre6 enc Try.prog Try.f13 Rows.fnExactInhabitedDatasRow.domain false) (Rows.fnExactInhabitedDatasSpec.post enc Try.prog Try.f13 false true false false) := by
  refine returnsInHanded_of_change (C := Try.checked) own started (by kernel_rfl) Try.func13
    (ChangeSpec.witness6 (enc := enc) (C := Try.checked) false ⟨#[], #[.slice none 0 0], []⟩ 8 (by kernel_rfl) (by kernel_rfl) (by kernel_rfl) (by kernel_rfl)) ?_
  intro W base args ds gs before hval0 hW _ _
  have hval : ∀ (j : Nat) t v, Try.f13.params[j]? = some t → args[j]? = some v → Value.okWide Try.prog W .any base t v := hval0
  have hW' := hW
  obtain ⟨p, q, hA0, hV0, rfl, hfz, hnd⟩ := hW
  have hA : DataW.TrodAll enc Try.prog W 0 (fun _ => true) true Try.f13.params.toList args.toList ds p := hA0
  rw [Try.params13] at hA hval
  obtain ⟨v0, vs0, d0, ds0, p0, q0, hargs, rfl, rfl, h0, r0⟩ := trodAll_cons hA
  obtain ⟨rfl, rfl, rfl⟩ := trodAll_nil r0
  obtain rfl : args = #[v0] := by cases args; simp_all
  obtain ⟨a0, c0, l0, rfl, w0⟩ := open_datas (hval 0 40 v0 rfl rfl) h0
  obtain ⟨rfl, rfl⟩ := trodVars_none hV0
  refine (walk W a0 c0 l0 w0).mono fun e W' ⟨he, hg⟩ => ?_
  subst he
  exact ⟨_, rfl, post_law laidOut (by kernel_rfl) (by kernel_rfl) rfl Try.underlying4 hW' hg rfl⟩

theorem proved : Rows.FnExactInhabitedDatasSaid :=
  OpenClaim.holds_of_wide 13 Try.f13 rfl rfl rfl rfl rfl rfl rfl ⟨rfl, rfl, rfl, rfl, rfl⟩ rfl rfl rfl rfl rfl (by kernel_rfl) Try.func13 (by kernel_rfl)
    (of_decide_eq_true (by kernel_rfl)) (by unfold Func.isWrapper; first | (rw [if_pos (by decide +kernel)]; kernel_rfl) | (rw [if_neg (by decide +kernel)]; exact ⟨rfl, rfl⟩))
    (fun os started H enc _ => lifted os started H enc)
#print axioms proved
end Go.Proofs.Ytdlbhjkkgiaidaa.fnExactInhabitedDatas
