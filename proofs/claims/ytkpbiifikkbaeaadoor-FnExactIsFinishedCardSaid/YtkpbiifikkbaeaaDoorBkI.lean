/-
  Contracts of the program's allNamed and ValidBook. Condition: the term or book lies in memory; for ValidBook the table of forms reads as the program's text lays it.
  Contract of the program's ValidBook. Condition: the book lies in memory; the table of forms reads as the program's text lays it.
-/
import Derived.Test.YtkpbiifikkbaeaaDoorBkSp
import Derived.Test.YtkpbiifikkbaeaaDoorCoCl
namespace Go.Proofs.YtkpbiifikkbaeaaDoor.Con
open Go.RowKit
set_option linter.unusedVariables false
attribute [local go_sem] Oper.semAt_some

set_option maxRecDepth 100000 in
set_option maxHeartbeats 4000000 in
theorem impl_allNamed (u : LK) (n : Int) (w : World) (b o : Nat) (h : coAt w b o u) (hdp : u.co.dp ≤ 1000) : Calls Tryd.prog 76 #[.pointer (some ⟨b, o, none⟩), .int .i64 n] w (BoolGw (u.co.all (namH n)) w) := by
  have HU := Lib.hid h
  have g0 : Gw w ((w.alloc (.cells #[.int .i64 n] 3)).alloc (.cells #[.bool false] 4)) := ((Gw.refl w).alloc _).alloc _
  have BK := ((Gw.refl (w.alloc (.cells #[.int .i64 n] 3))).alloc (.cells #[.bool false] 4)).block _ (by simp) |>.trans (Boxed.new w 3 (.int .i64 n))
  have BR := Boxed.new (w.alloc (.cells #[.int .i64 n] 3)) 4 (.bool false)
  rw [World.size_alloc] at BR
  have G := Lib.hid g0
  have HDP := Lib.hid hdp
  clear h hdp g0
  refine (callsIn_wide (n := 9)).1 ?_
  refine callsIn_of_wp_marks Tryd.func76 rfl trivial ?_ rfl
  simp only [Tryd.ntmps76, List.size_toArray, List.length_cons, List.length_nil, Nat.reduceAdd, Nat.reduceSub, Array.replicate_succ, Array.replicate_zero, List.push_toArray, List.append_toArray, List.nil_append, List.cons_append]
  have f1 : Fence.wide.fn 109 := trivial
  have f2 : Fence.wide.fn 108 := trivial
  gi_upto_region 1 with (fail)
  generalize (w.alloc (.cells #[.int .i64 n] 3)).alloc (.cells #[.bool false] 4) = w1 at *
  obtain ⟨B0, hB0⟩ : ∃ x, x = w.heap.size := ⟨_, rfl⟩
  obtain ⟨B1, hB1⟩ : ∃ x, x = w.heap.size + 1 := ⟨_, rfl⟩
  rw [← hB0] at BK
  rw [← hB1] at BR
  rw [← hB1, ← hB0]
  have HB := Lib.hid (And.intro hB0 hB1)
  have BN := Lib.hid (show Boxed w1 B0 3 (.int .i64 n) from BK)
  have BRR2 := Lib.hid BR
  have A2 := Lib.hid (HU.out.grow G.out)
  clear hB0 BK BR hB1
  have hB1 : w.heap.size ≤ B1 := by have := HB.out; omega
  have KN := Lib.hid (impl_coreNodes b o w1)
  gi_wp2_with fail
  refine (callsIn_wide.2 KN.out).mono ?_
  rintro e w3 ⟨rfl, hw3'⟩
  have HW3 := Lib.hid hw3'
  clear hw3'
  gi_wp2_with fail
  have hw3 := HW3.out
  clear HW3
  obtain ⟨B, hB⟩ : ∃ x, x = w1.heap.size := ⟨_, rfl⟩
  have g23 : Gw w1 w3 := by rw [hw3]; exact (Gw.refl w1).alloc _
  have hBs : B < w3.heap.size := by rw [hw3, hB]; simp
  have HC := Lib.hid (show w3.cell? ⟨B, 0, none⟩ = some (.pointer (some ⟨b, o, none⟩)) by rw [hw3, hB]; exact cell_of_row _ _ 0 _ _ _ (heap_alloc_new w1 _))
  have CA := Lib.hid A2.out
  have HD := Lib.hid (show u.co.dp ≤ 1000 from HDP.out)
  have G3 := Lib.hid g23
  have HS := Lib.hid (show w1.heap.size ≤ w3.heap.size ∧ w.heap.size ≤ w1.heap.size ∧ B1 < w1.heap.size from ⟨g23.size, G.out.size, BRR2.out.lt⟩)
  have I0 := Lib.hid (show (Boxed w3 B1 4 (.bool false) ∧ Below w1.heap.size w1 w3) ∧ AllN (namH n) ([] : List (NodeS w1 (nodesK u b o 0 0))) from ⟨⟨(g23.block _ BRR2.out.lt).trans BRR2.out, g23⟩, fun x h => by cases h⟩)
  rw [← hB]
  have HBB := Lib.hid hB
  clear hw3 g23 hB KN BRR2
  refine wpIn_rangeFunc_ownH rfl (by omega) (gf := 117) (lb := #[.pointer (some ⟨B, 0, none⟩)]) rfl trivial (enters_of Tryd.func117 (by kernel_rfl) rfl)
    (cn_stops (9 - 1) (by omega) B b o u w1 w3 hBs HC.out CA.out HD.out G3.out) KeepP.trans (keepP_b HS.out.1) (Below.refl _ _) (fun _ => rfl)
    (fun pre W => (Boxed W B1 4 (.bool false) ∧ Below w1.heap.size w1 W) ∧ AllN (namH n) pre)
    (fun c pre W => c = .ret ∧ ExN (namH n) pre ∧ Boxed W B1 4 (.bool false) ∧ Below w.heap.size w W)
    (OwnFrom.and (OwnFrom.and (Own.from (boxed_own _ _ _) _) (ownFrom_below (Nat.le_refl _) HS.out.1)) (fun _ _ _ _ h _ _ => h))
    (fun c => OwnFrom.and (fun _ _ _ _ h _ _ => h) (OwnFrom.and (fun _ _ _ _ h _ _ => h) (OwnFrom.and (Own.from (boxed_own _ _ _) _) (ownFrom_below (Nat.le_refl _) (Nat.le_trans HS.out.2.1 HS.out.1)))))
    I0.out
    (fun x a' W => a' = { tmps := #[.pointer (some ⟨b, o, none⟩), .int .i64 n, undef, .pointer (some ⟨B0, 0, none⟩), .pointer (some ⟨B1, 0, none⟩), .pointer (some ⟨x.1.b, x.1.o, none⟩), .pointer (some ⟨b, o, none⟩), .func (.func 117) #[] #[.pointer (some ⟨B, 0, none⟩)], .pointer (some ⟨x.1.b, x.1.o, none⟩), .agg #[.int .i64 x.1.bd, .int .i64 x.1.lv], undef, undef, undef, undef], defers := [] })
    (fun x a' _ X Y row hs hg hr => hs)
    ?assign ?body ?done ?stop
  case assign =>
    rintro l pre x W K hi hK
    have HI := Lib.hid hi
    have HK := Lib.hid hK
    clear hi hK
    simp only [encN]
    gi_wp2
    exact HK.out _ _ (keeps_of_gw (Gw.refl W)) (KeepP.gw HI.out.1.2.size (Gw.refl W)) HI.out rfl
  case body =>
    rintro l pre x a' W hl ⟨r, hr⟩ ⟨⟨iR, iB⟩, hall⟩ rfl hlen2
    have IR := Lib.hid iR
    have IB := Lib.hid iB
    have HALL := Lib.hid hall
    have hsz : w1.heap.size ≤ W.heap.size := iB.size
    have KY := Lib.hid (impl_namesOnly x.1.u W x.1.b x.1.o n (x.2.2.1.grow iB))
    have cN := (show Boxed W B0 3 (.int .i64 n) from (iB.block _ BN.out.lt).trans BN.out).cell
    clear iR iB hall hr r
    gi_wp2_with fail
    refine (CallsIn.inRound l (callsIn_wide.2 KY.out)).mono ?_
    rintro e W4 ⟨rfl, g4⟩
    have iR4 : Boxed W4 B1 4 (.bool false) := (g4.block _ IR.out.lt).trans IR.out
    have cR := iR4.cell
    have fR := iR4.frozen
    have IR4 := Lib.hid iR4
    have IB4 := Lib.hid (IB.out.trans (g4.mono hsz))
    have fin : ∀ (W' : World), W' = W4.setCell ⟨B1, 0, none⟩ (.bool false) → namH n x.1.u.k x.1.u.v x.1.u.ds x.1.u.ks.length = false → KeepsFrom w3.heap.size W W' ∧ ExN (namH n) (pre ++ [x]) ∧ Boxed W' B1 4 (.bool false) ∧ Below w.heap.size w W' := fun W' hW' he => by
      subst hW'
      exact ⟨(keeps_of_gw g4).trans ((KeepsOthers.setCell _ _ _).from _), ExN.snoc he, IR4.out.set _, (Below.trans G.out (IB4.out.mono HS.out.2.1)).setCell (p := ⟨B1, 0, none⟩) hB1 _⟩
    have FIN := Lib.hid fin
    have G4 := Lib.hid g4
    clear fin iR4 g4 cN KY
    cases hb : coD (namedC x.1.u.k x.1.u.v x.1.u.ds) n with
    | false =>
      have HE := Lib.hid (show namH n x.1.u.k x.1.u.v x.1.u.ds x.1.u.ks.length = false from hb)
      clear hb
      gi_wp2
      obtain ⟨k1, k2, k3, k4⟩ := FIN.out _ rfl HE.out
      exact ⟨k1, rfl, k2, k3, k4⟩
    | true =>
      have HE := Lib.hid (show namH n x.1.u.k x.1.u.v x.1.u.ds x.1.u.ks.length = true from hb)
      clear hb
      gi_wp2
      exact ⟨keeps_of_gw G4.out, KeepP.gw hsz G4.out, ⟨IR4.out, IB4.out⟩, HALL.out.snoc HE.out⟩
  case done =>
    rintro D ys W hD hys ⟨⟨iR, iB⟩, hall⟩ hK
    have HE := Lib.hid (AllN.done hall hys)
    have IR := Lib.hid iR
    have cR := iR.cell
    have fR := iR.frozen
    have HKK := Lib.hid hK
    have BB := Lib.hid ((Below.trans G.out (iB.mono HS.out.2.1)).setCell (p := ⟨B1, 0, none⟩) hB1 (.bool true))
    clear iR iB hall hK hys
    gi_wp2
    have hD2 : B1 ≠ D := by have := HS.out; omega
    have hKD : (W.setCell ⟨B1, 0, none⟩ (.bool true)).heap[D]? = some (.deferred (some [])) := (Below.heap_setCell _ _ _ _ (by simpa using fun e => hD2 e.symm)).trans HKK.out
    have cF : ((W.setCell ⟨B1, 0, none⟩ (.bool true)).putObj D (.deferred none)).cell? ⟨B1, 0, none⟩ = some (.bool true) := Boxed.cell ((World.putObj_heap_other hD2).trans (IR.out.set (.bool true)))
    refine ⟨by simp, .inl ⟨_, _, rfl, run_takeDeferred hKD, ?_⟩⟩
    exact ⟨.bool true, by simp [results, Tryd.results76, go_sem, cF], by rw [HE.out], BB.out.trans (belowK_b (w := w) (Nat.le_refl _) _ D _ (.deferred none) (by have := HS.out; omega) hKD rfl rfl)⟩
  case stop =>
    rintro D c pre W hD _ ⟨rfl, hex, iR, iB⟩ hK
    have HE := Lib.hid (hex.stop)
    have IR := Lib.hid iR
    have HKK := Lib.hid hK
    have BB := Lib.hid iB
    clear iR iB hK hex
    gi_wp2
    have hD2 : B1 ≠ D := by have := HS.out; omega
    have cF : (W.putObj D (.deferred none)).cell? ⟨B1, 0, none⟩ = some (.bool false) := Boxed.cell ((World.putObj_heap_other hD2).trans IR.out)
    refine ⟨by simp, .inl ⟨_, _, rfl, run_takeDeferred HKK.out, ?_⟩⟩
    exact ⟨.bool false, by simp [results, Tryd.results76, go_sem, cF], by rw [HE.out], BB.out.trans (belowK_b (w := w) (Nat.le_refl _) _ D _ (.deferred none) (by have := HS.out; omega) HKK.out rfl rfl)⟩

end Go.Proofs.YtkpbiifikkbaeaaDoor.Con

namespace Go.Proofs.YtkpbiifikkbaeaaDoor.Con
open Go.RowKit
set_option linter.unusedVariables false
attribute [local go_sem] Oper.semAt_some

theorem named_closed {u : LK} {n : Int} (h : closC u.co = true) : u.co.all (refH n) = u.co.all (namH n) := by
  unfold closC at h
  rw [Bool.and_eq_true] at h
  exact all_nam n _ (okC_good h.1).1

set_option maxRecDepth 100000 in
set_option maxHeartbeats 1000000 in
theorem impl_validBook (u : LB) (w : World) (h : bOk w u) (hT : KTbl w) : Calls Tryd.prog 80 #[u.val] w (BoolGw (bkC u.cs) w) := by
  have hl := h.len
  have hcl : u.cs.length = u.ks.length := by simp [LB.cs]
  have g0 := (Gw.refl w).alloc (.cells #[.slice u.a u.ks.length u.cap] 39)
  have PB := BoxB.new w u 39
  have OK := Lib.hid (h.grow g0)
  have TB := Lib.hid (hT.grow g0)
  clear h hT
  go_enter Tryd.func80, Tryd.ntmps80
  go_upto_region 1 with (fail)
  generalize w.alloc (.cells #[.slice u.a u.ks.length u.cap] 39) = w1 at *
  generalize w.heap.size = B at *
  have G1 := Lib.hid g0
  clear g0
  have c0 := PB.c
  by_cases hin : 1 ≤ u.ks.length ∧ u.ks.length ≤ 24
  case neg =>
    have F := Lib.hid (bkC_len (ts := u.cs) (by rw [hcl]; unfold inV; exact decide_eq_false (by omega)))
    by_cases h0 : u.ks.length = 0
    · have e0 : ((u.ks.length : Int) == 0) = true := by rw [h0]; rfl
      clear hin h0 hcl
      go_wp2_with fail
      go_ret
      exact ⟨ret_b F.out.symm, G1.out⟩
    · have e0 : ((u.ks.length : Int) == 0) = false := beq_eq_false_iff_ne.2 (by omega)
      have e1 : decide ((24 : Int) < u.ks.length) = true := decide_eq_true (by omega)
      clear hin h0 hcl
      go_wp2_with fail
      go_ret
      exact ⟨ret_b F.out.symm, G1.out⟩
  have HI := Lib.hid (show inV u.ks.length 1 24 = true from by unfold inV; exact decide_eq_true (by omega))
  have e0 : ((u.ks.length : Int) == 0) = false := beq_eq_false_iff_ne.2 (by omega)
  have e1 : decide ((24 : Int) < u.ks.length) = false := decide_eq_false (by omega)
  clear hin hcl
  go_wp2_with fail
  clear c0 e0 e1
  go_loopw [18] (fun i wr => ∃ j : Nat, j ≤ u.ks.length ∧ i = .int .i64 j ∧ Gw w1 wr ∧ ∀ x (hx : x < u.ks.length), x < j → (closC u.ks[x].co && u.ks[x].co.all (refH u.ks.length)) = true) (fun i _ => u.ks.length - (intOf i).toNat)
  case atStart => exact ⟨0, by omega, rfl, Gw.refl _, fun x _ h => absurd h (by omega)⟩
  case round =>
    obtain ⟨j, hj, rfl, hg, hall⟩ := hrel
    have HALL := Lib.hid hall
    have HG := Lib.hid hg
    have PB3 := PB.grow hg
    have OK3 := Lib.hid (OK.out.grow hg)
    have TB3 := Lib.hid (TB.out.grow hg)
    clear hall hg
    by_cases hlt : j < u.ks.length
    · obtain ⟨bk, ok, ea, hkid⟩ := coAt.kid OK3.out j hlt
      obtain ⟨c0, c1, c2, c3⟩ := hkid.c
      have P0 := PB3.c
      have DK := Lib.hid hkid.2
      have BAD := Lib.hid (bkC_bad (u := u) j hlt)
      have r0 : (0 : Int) ≤ j := by omega
      have r1 : (j : Int) < u.ks.length := by omega
      have EA := Lib.hid ea
      rw [ea]
      clear ea hkid
      go_upto_region 6 with (fail)
      clear c0 c1 c2 c3 P0
      have GA := Lib.hid ((Gw.refl wr).alloc (.cells #[.int .i64 u.ks[j].k, .int .i64 u.ks[j].v, .slice u.ks[j].da u.ks[j].ds.length u.ks[j].dc, .slice u.ks[j].a u.ks[j].ks.length u.ks[j].cap] 42))
      have FB := BoxK.new wr u.ks[j] 42
      generalize wr.alloc (.cells #[.int .i64 u.ks[j].k, .int .i64 u.ks[j].v, .slice u.ks[j].da u.ks[j].ds.length u.ks[j].dc, .slice u.ks[j].a u.ks[j].ks.length u.ks[j].cap] 42) = w3 at *
      generalize wr.heap.size = D at *
      have HG3 := Lib.hid (HG.out.trans GA.out)
      replace PB3 := PB3.grow GA.out
      replace DK := Lib.hid (DK.out.grow GA.out)
      replace TB3 := Lib.hid (TB3.out.grow GA.out)
      clear GA
      obtain ⟨c0, c1, c2, c3⟩ := FB.c
      have P0 := PB3.c
      have KEY0 := impl_closed u.ks[j] w3 DK.out TB3.out
      cases hL : closC u.ks[j].co with
      | false =>
        rw [hL] at KEY0
        have KEY := Lib.hid KEY0
        have FF := Lib.hid (BAD.out (by rw [hL]; rfl))
        clear KEY0 hL P0
        go_wp2_with fail
        refine KEY.out.mono ?_
        rintro e w4 ⟨rfl, g4⟩
        clear c0 c1 c2 c3
        go_wp2_with fail
        go_ret
        exact ⟨ret_b FF.out.symm, G1.out.trans (HG3.out.trans g4)⟩
      | true =>
      have HL := Lib.hid hL
      rw [hL] at KEY0
      have KEY := Lib.hid KEY0
      clear KEY0 hL P0
      go_wp2_with fail
      refine KEY.out.mono ?_
      rintro e w4 ⟨rfl, g4⟩
      clear c0 c1 c2 c3 KEY
      replace PB3 := PB3.grow g4
      have FA := (FB.grow g4).at (DK.out.grow g4)
      replace HG3 := Lib.hid (HG3.out.trans g4)
      clear g4
      have P0 := PB3.c
      have KN := Lib.hid (impl_allNamed u.ks[j] u.ks.length w4 D 0 FA (by have := HL.out; unfold closC at this; rw [Bool.and_eq_true] at this; have := (okC_good this.1).2.1; omega))
      clear FA
      go_wp2_with fail
      refine KN.out.mono ?_
      rintro e w5 ⟨rfl, g5⟩
      replace HG3 := Lib.hid (HG3.out.trans g5)
      clear g5 P0 KN
      cases hU : u.ks[j].co.all (namH u.ks.length) with
      | false =>
        have FF := Lib.hid (BAD.out (by rw [named_closed HL.out, hU, Bool.and_false]))
        clear hU
        go_wp2_with fail
        go_ret
        exact ⟨ret_b FF.out.symm, G1.out.trans HG3.out⟩
      | true =>
      have HU := Lib.hid hU
      clear hU
      go_wp2_with fail
      go_roundw
      case rel =>
        refine ⟨j + 1, by omega, by go_num, HG3.out, fun x hx hi => ?_⟩
        by_cases e : x = j
        · subst e; rw [named_closed HL.out, HL.out, HU.out]; rfl
        · exact HALL.out x hx (by omega)
      case measure => simp [intOf]; omega
    · obtain rfl : j = u.ks.length := by omega
      have F := Lib.hid (bkC_yes HI.out (fun x hx => HALL.out x hx hx))
      go_wp2_with fail
      go_ret
      exact ⟨ret_b F.out.symm, G1.out.trans HG.out⟩

end Go.Proofs.YtkpbiifikkbaeaaDoor.Con
