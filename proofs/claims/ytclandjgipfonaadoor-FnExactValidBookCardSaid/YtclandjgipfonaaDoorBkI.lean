/-
  Contract of the program's ValidBook. Condition: the book lies in memory; the table of forms reads as the program's text lays it.
-/
import Derived.Test.YtclandjgipfonaaDoorBkSb
import Derived.Test.YtclandjgipfonaaDoorBkN
namespace Go.Proofs.YtclandjgipfonaaDoor.Con
open Go.RowKit
set_option linter.unusedVariables false
attribute [local go_sem] Oper.semAt_some

theorem named_closed {u : LK} {n : Int} (h : closC u.co = true) : u.co.all (refH n) = u.co.all (namH n) := by
  unfold closC at h
  rw [Bool.and_eq_true] at h
  exact all_nam n _ (okC_good h.1).1

set_option maxRecDepth 100000 in
set_option maxHeartbeats 1000000 in
theorem impl_validBook (u : LB) (w : World) (h : bOk w u) (hT : KTbl w) : Calls Tryd.prog 39 #[u.val] w (BoolGw (bkC u.cs) w) := by
  have hl := h.len
  have hcl : u.cs.length = u.ks.length := by simp [LB.cs]
  have g0 := (Gw.refl w).alloc (.cells #[.slice u.a u.ks.length u.cap] 49)
  have PB := BoxB.new w u 49
  have OK := Lib.hid (h.grow g0)
  have TB := Lib.hid (hT.grow g0)
  clear h hT
  go_enter Tryd.func39, Tryd.ntmps39
  go_upto_region 1 with (fail)
  generalize w.alloc (.cells #[.slice u.a u.ks.length u.cap] 49) = w1 at *
  generalize w.heap.size = B at *
  have G1 := Lib.hid g0
  clear g0
  have c0 := PB.c
  by_cases hin : 1 ≤ u.ks.length ∧ u.ks.length ≤ 24
  case neg =>
    have F := Lib.hid (bkC_len (ts := u.cs) (by rw [hcl]; unfold inV; exact decide_eq_false (by omega)))
    by_cases h0 : u.ks.length = 0
    · have e0 : ((u.ks.length : Int) == 0) = true := by rw [h0]; rfl
      clear hin h0 hcl
      go_wp2_with fail
      go_ret
      exact ⟨ret_b F.out.symm, G1.out⟩
    · have e0 : ((u.ks.length : Int) == 0) = false := beq_eq_false_iff_ne.2 (by omega)
      have e1 : decide ((24 : Int) < u.ks.length) = true := decide_eq_true (by omega)
      clear hin h0 hcl
      go_wp2_with fail
      go_ret
      exact ⟨ret_b F.out.symm, G1.out⟩
  have HI := Lib.hid (show inV u.ks.length 1 24 = true from by unfold inV; exact decide_eq_true (by omega))
  have e0 : ((u.ks.length : Int) == 0) = false := beq_eq_false_iff_ne.2 (by omega)
  have e1 : decide ((24 : Int) < u.ks.length) = false := decide_eq_false (by omega)
  clear hin hcl
  go_wp2_with fail
  clear c0 e0 e1
  go_loopw [18] (fun i wr => ∃ j : Nat, j ≤ u.ks.length ∧ i = .int .i64 j ∧ Gw w1 wr ∧ ∀ x (hx : x < u.ks.length), x < j → (closC u.ks[x].co && u.ks[x].co.all (refH u.ks.length)) = true) (fun i _ => u.ks.length - (intOf i).toNat)
  case atStart => exact ⟨0, by omega, rfl, Gw.refl _, fun x _ h => absurd h (by omega)⟩
  case round =>
    obtain ⟨j, hj, rfl, hg, hall⟩ := hrel
    have HALL := Lib.hid hall
    have HG := Lib.hid hg
    have PB3 := PB.grow hg
    have OK3 := Lib.hid (OK.out.grow hg)
    have TB3 := Lib.hid (TB.out.grow hg)
    clear hall hg
    by_cases hlt : j < u.ks.length
    · obtain ⟨bk, ok, ea, hkid⟩ := coAt.kid OK3.out j hlt
      obtain ⟨c0, c1, c2, c3⟩ := hkid.c
      have P0 := PB3.c
      have DK := Lib.hid hkid.2
      have BAD := Lib.hid (bkC_bad (u := u) j hlt)
      have r0 : (0 : Int) ≤ j := by omega
      have r1 : (j : Int) < u.ks.length := by omega
      have EA := Lib.hid ea
      rw [ea]
      clear ea hkid
      go_upto_region 6 with (fail)
      clear c0 c1 c2 c3 P0
      have GA := Lib.hid ((Gw.refl wr).alloc (.cells #[.int .i64 u.ks[j].k, .int .i64 u.ks[j].v, .slice u.ks[j].da u.ks[j].ds.length u.ks[j].dc, .slice u.ks[j].a u.ks[j].ks.length u.ks[j].cap] 30))
      have FB := BoxK.new wr u.ks[j] 30
      generalize wr.alloc (.cells #[.int .i64 u.ks[j].k, .int .i64 u.ks[j].v, .slice u.ks[j].da u.ks[j].ds.length u.ks[j].dc, .slice u.ks[j].a u.ks[j].ks.length u.ks[j].cap] 30) = w3 at *
      generalize wr.heap.size = D at *
      have HG3 := Lib.hid (HG.out.trans GA.out)
      replace PB3 := PB3.grow GA.out
      replace DK := Lib.hid (DK.out.grow GA.out)
      replace TB3 := Lib.hid (TB3.out.grow GA.out)
      clear GA
      obtain ⟨c0, c1, c2, c3⟩ := FB.c
      have P0 := PB3.c
      have KEY0 := impl_closed u.ks[j] w3 DK.out TB3.out
      cases hL : closC u.ks[j].co with
      | false =>
        rw [hL] at KEY0
        have KEY := Lib.hid KEY0
        have FF := Lib.hid (BAD.out (by rw [hL]; rfl))
        clear KEY0 hL P0
        go_wp2_with fail
        refine KEY.out.mono ?_
        rintro e w4 ⟨rfl, g4⟩
        clear c0 c1 c2 c3
        go_wp2_with fail
        go_ret
        exact ⟨ret_b FF.out.symm, G1.out.trans (HG3.out.trans g4)⟩
      | true =>
      have HL := Lib.hid hL
      rw [hL] at KEY0
      have KEY := Lib.hid KEY0
      clear KEY0 hL P0
      go_wp2_with fail
      refine KEY.out.mono ?_
      rintro e w4 ⟨rfl, g4⟩
      clear c0 c1 c2 c3 KEY
      replace PB3 := PB3.grow g4
      have FA := (FB.grow g4).at (DK.out.grow g4)
      replace HG3 := Lib.hid (HG3.out.trans g4)
      clear g4
      have P0 := PB3.c
      have KN := Lib.hid (impl_allNamed u.ks[j] u.ks.length w4 D 0 FA (by have := HL.out; unfold closC at this; rw [Bool.and_eq_true] at this; have := (okC_good this.1).2.1; omega))
      clear FA
      go_wp2_with fail
      refine KN.out.mono ?_
      rintro e w5 ⟨rfl, g5⟩
      replace HG3 := Lib.hid (HG3.out.trans g5)
      clear g5 P0 KN
      cases hU : u.ks[j].co.all (namH u.ks.length) with
      | false =>
        have FF := Lib.hid (BAD.out (by rw [named_closed HL.out, hU, Bool.and_false]))
        clear hU
        go_wp2_with fail
        go_ret
        exact ⟨ret_b FF.out.symm, G1.out.trans HG3.out⟩
      | true =>
      have HU := Lib.hid hU
      clear hU
      go_wp2_with fail
      go_roundw
      case rel =>
        refine ⟨j + 1, by omega, by go_num, HG3.out, fun x hx hi => ?_⟩
        by_cases e : x = j
        · subst e; rw [named_closed HL.out, HL.out, HU.out]; rfl
        · exact HALL.out x hx (by omega)
      case measure => simp [intOf]; omega
    · obtain rfl : j = u.ks.length := by omega
      have F := Lib.hid (bkC_yes HI.out (fun x hx => HALL.out x hx hx))
      go_wp2_with fail
      go_ret
      exact ⟨ret_b F.out.symm, G1.out.trans HG.out⟩

end Go.Proofs.YtclandjgipfonaaDoor.Con
