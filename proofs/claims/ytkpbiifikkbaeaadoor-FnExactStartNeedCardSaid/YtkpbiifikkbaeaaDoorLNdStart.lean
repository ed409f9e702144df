/-
  Proved: for all books b and core terms c the law FnExactStartNeed returns true and leaves its arguments as they were. Condition: the program's table coreForms reads as its text lays it.
-/
import Derived.Test.YtkpbiifikkbaeaaDoorNdSt
import Derived.Deep.RegionHeld3
import Derived.Deep.Cut
import Derived.Deep.CutRange
import Derived.Test.YtkpbiifikkbaeaaDoorCards
import Derived.Test.YtkpbiifikkbaeaaDoorTie
import Derived.LaidMore
import Derived.Lay
import Derived.SevenTiedAt
import Derived.Stop.Joined
namespace Go.Proofs.YtkpbiifikkbaeaaDoor.fnExactStartNeed
open Go.ChangeShapes Go.WideShapes Go.ChangeAt Go.RowKit Con
set_option linter.unusedVariables false
theorem own : ownKnob Tryd.prog.godebug = none := by kernel_rfl
theorem laidOut : laidOutB Tryd.prog = true := by kernel_rfl

set_option maxRecDepth 100000 in
set_option maxHeartbeats 4000000 in
theorem walk (w : World) (a0 : LB) (w0 : bOk w a0) (a1 : LK) (w1 : a1.Ok w) (hT : laidMetH Tryd.prog Rows.fnExactStartNeedRow.laid w) :
    Calls Tryd.prog 4 #[a0.val, a1.val] w fun e w' => e = .returned (.bool true) ∧ Gw w w' := by
  have TB := Lib.hid (show KTbl w from ktbl_of (by have h2 : laidMetH Tryd.prog Rows.fnExactStartNeedRow.laid w := hT; rw [MakeChecks.laidMetH_plain _ _ _ (by kernel_rfl)] at h2; exact h2))
  have gW : Gw w ((w.alloc (.cells #[.slice a0.a a0.ks.length a0.cap] 24)).alloc (.cells #[.int .i64 a1.k, .int .i64 a1.v, .slice a1.da a1.ds.length a1.dc, .slice a1.a a1.ks.length a1.cap] 27)) := ((Gw.refl w).alloc _).alloc _
  have A0 : bAt bkE ((w.alloc (.cells #[.slice a0.a a0.ks.length a0.cap] 24)).alloc (.cells #[.int .i64 a1.k, .int .i64 a1.v, .slice a1.da a1.ds.length a1.dc, .slice a1.a a1.ks.length a1.cap] 27)) (w).heap.size a0 := bAt.grow (bAt.new (w := w) (cs := #[.slice a0.a a0.ks.length a0.cap]) (e := 24) rfl) ((Gw.refl _).alloc _)
  have O0 : bOk ((w.alloc (.cells #[.slice a0.a a0.ks.length a0.cap] 24)).alloc (.cells #[.int .i64 a1.k, .int .i64 a1.v, .slice a1.da a1.ds.length a1.dc, .slice a1.a a1.ks.length a1.cap] 27)) a0 := bkGr _ _ _ w0 gW
  have A1 : bAt coE ((w.alloc (.cells #[.slice a0.a a0.ks.length a0.cap] 24)).alloc (.cells #[.int .i64 a1.k, .int .i64 a1.v, .slice a1.da a1.ds.length a1.dc, .slice a1.a a1.ks.length a1.cap] 27)) ((w.alloc (.cells #[.slice a0.a a0.ks.length a0.cap] 24))).heap.size a1 := bAt.grow (bAt.new (w := (w.alloc (.cells #[.slice a0.a a0.ks.length a0.cap] 24))) (cs := #[.int .i64 a1.k, .int .i64 a1.v, .slice a1.da a1.ds.length a1.dc, .slice a1.a a1.ks.length a1.cap]) (e := 27) rfl) (Gw.refl _)
  simp only [World.size_alloc] at A1
  have O1 : LK.Ok ((w.alloc (.cells #[.slice a0.a a0.ks.length a0.cap] 24)).alloc (.cells #[.int .i64 a1.k, .int .i64 a1.v, .slice a1.da a1.ds.length a1.dc, .slice a1.a a1.ks.length a1.cap] 27)) a1 := coGr _ _ _ w1 gW
  clear w0 w1 hT
  go_enter Tryd.func4, Tryd.ntmps4
  go_upto_region 2 with (fail)
  generalize ((w.alloc (.cells #[.slice a0.a a0.ks.length a0.cap] 24)).alloc (.cells #[.int .i64 a1.k, .int .i64 a1.v, .slice a1.da a1.ds.length a1.dc, .slice a1.a a1.ks.length a1.cap] 27)) = wA at *
  replace A0 := Lib.hid A0
  replace O0 := Lib.hid O0
  replace A1 := Lib.hid A1
  replace O1 := Lib.hid O1
  have p0 := A0.out.c 0 _ rfl
  go_wp2_with fail
  refine (laws_szBook a0 _ _ O0.out (by omega) (by omega)).mono ?_
  rintro e wS0 ⟨he, gB⟩
  subst he
  replace A0 := Lib.hid (A0.out.grow gB)
  replace O0 := Lib.hid (bkGr _ _ _ O0.out gB)
  replace A1 := Lib.hid (A1.out.grow gB)
  replace O1 := Lib.hid (coGr _ _ _ O1.out gB)
  replace gW := gW.trans gB
  clear gB p0
  by_cases hs0 : (1048576 : Int) < a0.sz
  · have HS : szR (1048576) a0.sz = -1 := if_neg (by omega)
    rw [HS]
    go_wp2_with fail
    go_ret
    exact ⟨rfl, gW⟩
  have HS : szR (1048576) a0.sz = 1048576 - a0.sz := if_pos (by omega)
  rw [HS]
  have hp : ¬ ((1048576 : Int) - a0.sz < 0) := by omega
  clear HS
  have p0 := A1.out.c 0 _ rfl
  have p1 := A1.out.c 1 _ rfl
  have p2 := A1.out.c 2 _ rfl
  have p3 := A1.out.c 3 _ rfl
  go_wp2_with fail
  refine (laws_szCore a1 _ _ O1.out (by omega) (by omega)).mono ?_
  rintro e wS1 ⟨he, gB⟩
  subst he
  replace A0 := Lib.hid (A0.out.grow gB)
  replace O0 := Lib.hid (bkGr _ _ _ O0.out gB)
  replace A1 := Lib.hid (A1.out.grow gB)
  replace O1 := Lib.hid (coGr _ _ _ O1.out gB)
  replace gW := gW.trans gB
  clear gB p0 p1 p2 p3 hp
  by_cases hs1 : (1048576 - a0.sz : Int) < a1.sz
  · have HS : szR (1048576 - a0.sz) a1.sz = -1 := if_neg (by omega)
    rw [HS]
    go_wp2_with fail
    go_ret
    exact ⟨rfl, gW⟩
  have HS : szR (1048576 - a0.sz) a1.sz = 1048576 - a0.sz - a1.sz := if_pos (by omega)
  rw [HS]
  have hp : ¬ ((1048576 - a0.sz : Int) - a1.sz < 0) := by omega
  clear HS
  have HZ := Lib.hid (show a0.sz + a1.sz ≤ 1048576 by omega)
  go_upto_region 8 with (fail)
  clear hp hs0 hs1
  have GWC := Lib.hid gW
  clear gW
  obtain ⟨cd, hcd⟩ : ∃ c, c = stCd a0.cs a1.co := ⟨_, rfl⟩
  obtain ⟨rs, hrs⟩ : ∃ r, r = stRs a0.cs a1.co := ⟨_, rfl⟩
  have KS := Lib.hid (show ∀ (x0 : LB) (x1 : LK) (W : World), Gw wS1 W → bOk W x0 → LK.Ok W x1 → LB.cs x0 = LB.cs a0 → LK.co x1 = LK.co a1 → Calls Tryd.prog 15 #[x0.val, x1.val] W (fun e w' => ∃ v : LK, e = .returned (.tuple #[.agg #[.int .i64 v.k, .int .i64 v.v, .slice v.da v.ds.length v.dc, .slice v.a v.ks.length v.cap, .slice none 0 0, .slice none 0 0, .slice none 0 0], .int .i64 cd]) ∧ LK.co v = rs ∧ gNew LK.Ok LK.bl W.heap.size w' v ∧ Gw W w') from fun x0 x1 W g hx0 hx1 ex0 ex1 => by
    have := spec_start x0 x1 W hx0 hx1
    rw [show x0.cs = a0.cs from ex0, show x1.co = a1.co from ex1] at this
    rw [hcd, hrs]
    exact this)
  have KI := Lib.hid (show ∀ (x0 : LB) (x1 : LK) (W : World), Gw wS1 W → bOk W x0 → LK.Ok W x1 → LB.cs x0 = LB.cs a0 → LK.co x1 = LK.co a1 → Calls Tryd.prog 17 #[x0.val, x1.val] W (fun e w' => ∃ v : LK, e = .returned (.tuple #[.agg #[.int .i64 v.k, .int .i64 v.v, .slice v.da v.ds.length v.dc, .slice v.a v.ks.length v.cap, .slice none 0 0, .slice none 0 0, .slice none 0 0], .int .i64 cd]) ∧ LK.co v = rs ∧ gNew LK.Ok LK.bl W.heap.size w' v ∧ Gw W w') from fun x0 x1 W g hx0 hx1 ex0 ex1 => by
    have TBW := TB.out.grow (GWC.out.trans g)
    have := impl_start x0 x1 W hx0 hx1 TBW
    rw [show x0.cs = a0.cs from ex0, show x1.co = a1.co from ex1] at this
    rw [hcd, hrs]
    exact this)
  have RB := Lib.hid (show ∀ u : LK, u.co = rs → 1 + mc_Core u ≤ 7999990 from fun u hu => by
    have h1 := mc_core_eq u
    have h2 : rs.mc ≤ 2400 := by
      rw [hrs]
      unfold stRs
      by_cases hm : msC a0.cs a1.co = true
      · rw [if_pos hm]; exact ok_mc (ms_good hm)
      · rw [if_neg hm]; show 2 + 0 + 0 ≤ 2400; decide
    rw [mcn_co, hu] at h1
    omega)
  clear hcd hrs
  have SK := Lib.hid (show ∀ W, Gw wS1 W → (fun W => W.cell? ⟨w.heap.size, 0, none⟩ = some (.slice a0.a a0.ks.length a0.cap) ∧ W.cell? ⟨w.heap.size + 1, 0, none⟩ = some (.int .i64 a1.k) ∧ W.cell? ⟨w.heap.size + 1, 1, none⟩ = some (.int .i64 a1.v) ∧ W.cell? ⟨w.heap.size + 1, 2, none⟩ = some (.slice a1.da a1.ds.length a1.dc) ∧ W.cell? ⟨w.heap.size + 1, 3, none⟩ = some (.slice a1.a a1.ks.length a1.cap)) W from fun W g => ⟨(A0.out.grow g).c 0 _ rfl, (A1.out.grow g).c 0 _ rfl, (A1.out.grow g).c 1 _ rfl, (A1.out.grow g).c 2 _ rfl, (A1.out.grow g).c 3 _ rfl⟩)
  go_cut [6, 7] from 6 to 34 (fun t6 t7 wx => ∃ (T : Nat) (v : LK), t6 = .pointer (some ⟨T, 0, none⟩) ∧ t7 = .int .i64 cd ∧ wS1.heap.size ≤ T ∧ bAt ndoE wx T v ∧ LK.co v = rs ∧ gNew LK.Ok LK.bl wS1.heap.size wx v ∧ Gw wS1 wx)
  case first =>
    refine wp_region_held_drew (S := fun W => W.cell? ⟨w.heap.size, 0, none⟩ = some (.slice a0.a a0.ks.length a0.cap) ∧ W.cell? ⟨w.heap.size + 1, 0, none⟩ = some (.int .i64 a1.k) ∧ W.cell? ⟨w.heap.size + 1, 1, none⟩ = some (.int .i64 a1.v) ∧ W.cell? ⟨w.heap.size + 1, 2, none⟩ = some (.slice a1.da a1.ds.length a1.dc) ∧ W.cell? ⟨w.heap.size + 1, 3, none⟩ = some (.slice a1.a a1.ks.length a1.cap)) (by kernel_rfl) ?_ (fun hHeld => ?_)
    · exact SK.out _ (Gw.refl _).drew
    have gK : Gw wS1 wS1.drew := (Gw.refl wS1).drew
    generalize wS1.drew = wD at *
    refine wpAnyH_take (i := 0) (oi := { dst := some 28, op := _, type := _, pos := _, after := _, guard := _ }) (v := a0.val) rfl (by kernel_rfl) (by kernel_rfl) (by kernel_rfl) (fun _ _ _ h => h) (Or.inl ⟨by rfl, ?_⟩) (by assumption) ?_
    · intro w hSw; obtain ⟨p0_0, p1_0, p1_1, p1_2, p1_3⟩ := hSw; go_simp
    try simp only [Act.put, List.setIfInBounds_toArray, List.set_cons_zero, List.set_cons_succ]
    refine wpAnyH_take (i := 2) (oi := { dst := some 30, op := _, type := _, pos := _, after := _, guard := _ }) (v := a1.val) rfl (by kernel_rfl) (by kernel_rfl) (by kernel_rfl) (fun _ _ _ h => h) (Or.inl ⟨by rfl, ?_⟩) (by assumption) ?_
    · intro w hSw; obtain ⟨p0_0, p1_0, p1_1, p1_2, p1_3⟩ := hSw; go_simp
    try simp only [Act.put, List.setIfInBounds_toArray, List.set_cons_zero, List.set_cons_succ]
    refine wpAnyH_ready (rs := [1, 8]) (by kernel_rfl) (by simp) ?_
    refine AllReadyH.cons (o := { dst := some 29, op := _, type := _, pos := _, after := _, guard := _ }) rfl (fun K hK => ?_) (AllReadyH.cons (o := { dst := some 6, op := _, type := _, pos := _, after := _, guard := _ }) rfl (fun K hK => ?_) AllReadyH.nil)
    · go_simp
      go_at_call 9
      refine (ly_toBook a0 _ (bkGr _ _ _ O0.out gK) (by have := HZ.out; omega)).mono ?_
      rintro e wt0 ⟨x0, rfl, hx, nx, g1⟩
      have HX0 := Lib.hid hx
      have OX0 := Lib.hid nx.1
      replace gK := gK.trans g1
      clear hx nx g1
      go_wp2_with fail
      refine hK.out _ _ (SK.out _ gK) (fun hHeld => ?_)
      clear hK K
      try simp only [Act.put, List.setIfInBounds_toArray, List.set_cons_zero, List.set_cons_succ]
      refine wpAnyH_ready (rs := [3, 8]) (by kernel_rfl) (by simp) ?_
      refine AllReadyH.cons (o := { dst := some 31, op := _, type := _, pos := _, after := _, guard := _ }) rfl (fun K hK => ?_) (AllReadyH.cons (o := { dst := some 6, op := _, type := _, pos := _, after := _, guard := _ }) rfl (fun K hK => ?_) AllReadyH.nil)
      · go_simp
        go_at_call 16
        refine (laws_toCore a1 _ (coGr _ _ _ O1.out gK) (by have := HZ.out; omega)).mono ?_
        rintro e wt1 ⟨x1, rfl, hx, nx, g1⟩
        have HX1 := Lib.hid hx
        have OX1 := Lib.hid nx.1
        replace OX0 := Lib.hid (bkGr _ _ _ OX0.out g1)
        replace gK := gK.trans g1
        clear hx nx g1
        go_wp2_with fail
        refine hK.out _ _ (SK.out _ gK) (fun hHeld => ?_)
        clear hK K
        try simp only [Act.put, List.setIfInBounds_toArray, List.set_cons_zero, List.set_cons_succ]
        refine wpAnyH_ready (rs := [4, 8]) (by kernel_rfl) (by simp) ?_
        refine AllReadyH.cons (o := { dst := some 32, op := _, type := _, pos := _, after := _, guard := _ }) rfl (fun K hK => ?_) (AllReadyH.cons (o := { dst := some 6, op := _, type := _, pos := _, after := _, guard := _ }) rfl (fun K hK => ?_) AllReadyH.nil)
        · go_simp
          go_at_call 15
          refine (KS.out x0 x1 _ gK OX0.out OX1.out HX0.out HX1.out).mono ?_
          rintro e wf2 ⟨v, rfl, hv, nv, g1⟩
          have HV := Lib.hid hv
          have NV := Lib.hid nv
          have VB := Lib.hid gK.size
          replace gK := gK.trans g1
          clear hv nv g1
          go_wp2_with fail
          refine hK.out _ _ (SK.out _ gK) (fun hHeld => ?_)
          clear hK K
          try simp only [Act.put, List.setIfInBounds_toArray, List.set_cons_zero, List.set_cons_succ]
          refine wpAnyH_take (i := 5) (oi := { dst := some 27, op := _, type := _, pos := _, after := _, guard := _ }) (v := .tuple #[.agg #[.int .i64 v.k, .int .i64 v.v, .slice v.da v.ds.length v.dc, .slice v.a v.ks.length v.cap, .slice none 0 0, .slice none 0 0, .slice none 0 0], .int .i64 cd]) rfl (by kernel_rfl) (by kernel_rfl) (by kernel_rfl) (fun _ _ _ h => h) (Or.inl ⟨by rfl, ?_⟩) (by assumption) ?_
          · intro w hSw; obtain ⟨p0_0, p1_0, p1_1, p1_2, p1_3⟩ := hSw; go_simp
          try simp only [Act.put, List.setIfInBounds_toArray, List.set_cons_zero, List.set_cons_succ]
          refine wpAnyH_take (i := 6) (oi := { dst := some 33, op := _, type := _, pos := _, after := _, guard := _ }) (v := .agg #[.int .i64 v.k, .int .i64 v.v, .slice v.da v.ds.length v.dc, .slice v.a v.ks.length v.cap, .slice none 0 0, .slice none 0 0, .slice none 0 0]) rfl (by kernel_rfl) (by kernel_rfl) (by kernel_rfl) (fun _ _ _ h => h) (Or.inl ⟨by rfl, ?_⟩) (by assumption) ?_
          · intro w hSw; obtain ⟨p0_0, p1_0, p1_1, p1_2, p1_3⟩ := hSw; go_simp
          try simp only [Act.put, List.setIfInBounds_toArray, List.set_cons_zero, List.set_cons_succ]
          refine wpAnyH_take (i := 7) (oi := { dst := some 34, op := _, type := _, pos := _, after := _, guard := _ }) (v := .int .i64 cd) rfl (by kernel_rfl) (by kernel_rfl) (by kernel_rfl) (fun _ _ _ h => h) (Or.inl ⟨by rfl, ?_⟩) (by assumption) ?_
          · intro w hSw; obtain ⟨p0_0, p1_0, p1_1, p1_2, p1_3⟩ := hSw; go_simp
          try simp only [Act.put, List.setIfInBounds_toArray, List.set_cons_zero, List.set_cons_succ]
          refine wpAnyH_ready (rs := [8]) (by kernel_rfl) (by simp) ?_
          refine AllReadyH.cons (o := { dst := some 6, op := _, type := _, pos := _, after := _, guard := _ }) rfl (fun K hK => ?_) AllReadyH.nil
          go_simp
          refine hK _ _ (SK.out _ (gK.alloc (.cells #[.int .i64 0, .int .i64 0, .slice none 0 0, .slice none 0 0, .slice none 0 0, .slice none 0 0, .slice none 0 0] 48))) (fun hHeld => ?_)
          clear hK K
          replace OX0 := Lib.hid (bkGr _ _ _ OX0.out ((Gw.refl _).alloc (.cells #[.int .i64 0, .int .i64 0, .slice none 0 0, .slice none 0 0, .slice none 0 0, .slice none 0 0, .slice none 0 0] 48)))
          replace OX1 := Lib.hid (coGr _ _ _ OX1.out ((Gw.refl _).alloc (.cells #[.int .i64 0, .int .i64 0, .slice none 0 0, .slice none 0 0, .slice none 0 0, .slice none 0 0, .slice none 0 0] 48)))
          have HT := Lib.hid (zAt.new wf2 #[.int .i64 0, .int .i64 0, .slice none 0 0, .slice none 0 0, .slice none 0 0, .slice none 0 0, .slice none 0 0] 48)
          have HTV := Lib.hid (show wf2.heap.size ∉ LK.bl v from fun e => by have := (NV.out.2.2 _ e).2.lt; omega)
          replace NV := Lib.hid (gNew.grow coGr NV.out ((Gw.refl _).alloc (.cells #[.int .i64 0, .int .i64 0, .slice none 0 0, .slice none 0 0, .slice none 0 0, .slice none 0 0, .slice none 0 0] 48)))
          have TG := Lib.hid gK.size
          replace gK := gK.alloc (.cells #[.int .i64 0, .int .i64 0, .slice none 0 0, .slice none 0 0, .slice none 0 0, .slice none 0 0, .slice none 0 0] 48)
          try simp only [Act.put, List.setIfInBounds_toArray, List.set_cons_zero, List.set_cons_succ]
          generalize wf2.alloc (.cells #[.int .i64 0, .int .i64 0, .slice none 0 0, .slice none 0 0, .slice none 0 0, .slice none 0 0, .slice none 0 0] 48) = wl2f at *
          generalize wf2.heap.size = T at *
          have z0 := HT.out.c 0 _ rfl
          have zf0 := HT.out.fz 0
          have z1 := HT.out.c 1 _ rfl
          have zf1 := HT.out.fz 1
          have z2 := HT.out.c 2 _ rfl
          have zf2 := HT.out.fz 2
          have z3 := HT.out.c 3 _ rfl
          have zf3 := HT.out.fz 3
          have z4 := HT.out.c 4 _ rfl
          have zf4 := HT.out.fz 4
          have z5 := HT.out.c 5 _ rfl
          have zf5 := HT.out.fz 5
          have z6 := HT.out.c 6 _ rfl
          have zf6 := HT.out.fz 6
          refine wpAnyH_ready (rs := [9]) (by kernel_rfl) (by simp) ?_
          refine AllReadyH.cons (o := { dst := none, op := _, type := _, pos := _, after := _, guard := _ }) rfl (fun K hK => ?_) AllReadyH.nil
          go_simp
          refine hK _ _ (SK.out _ (Below.setCell (Below.setCell (Below.setCell (Below.setCell (Below.setCell (Below.setCell (Below.setCell gK TG.out _) TG.out _) TG.out _) TG.out _) TG.out _) TG.out _) TG.out _)) (fun hHeld => ?_)
          clear hK K
          try simp only [Act.put, List.setIfInBounds_toArray, List.set_cons_zero, List.set_cons_succ]
          refine wpAnyH_take (i := 10) (oi := { dst := some 7, op := _, type := _, pos := _, after := _, guard := _ }) (v := .int .i64 cd) rfl (by kernel_rfl) (by kernel_rfl) (by kernel_rfl) (fun _ _ _ h => h) (Or.inl ⟨by rfl, ?_⟩) (by assumption) ?_
          · intro w hSw; obtain ⟨p0_0, p1_0, p1_1, p1_2, p1_3⟩ := hSw; go_simp
          try simp only [Act.put, List.setIfInBounds_toArray, List.set_cons_zero, List.set_cons_succ]
          refine wpAnyH_done (by kernel_rfl) ?_ _
          go_wp2_with fail
          go_meet
          case rel =>
            have hT0 := HT.out.2
            refine ⟨T, v, rfl, rfl, TG.out, ⟨#[.int .i64 v.k, .int .i64 v.v, .slice v.da v.ds.length v.dc, .slice v.a v.ks.length v.cap, .slice none 0 0, .slice none 0 0, .slice none 0 0], 48, by simp [World.setCell, Array.getElem?_modify, hT0], rfl⟩, HV.out, (gNew.same coFr NV.out fun y hy => ?_).mono (by have := VB.out; omega), (Below.setCell (Below.setCell (Below.setCell (Below.setCell (Below.setCell (Below.setCell (Below.setCell gK TG.out _) TG.out _) TG.out _) TG.out _) TG.out _) TG.out _) TG.out _)⟩
            have hne : y ≠ T := fun e => HTV.out (e ▸ hy)
            rw [Below.heap_setCell _ _ _ _ hne, Below.heap_setCell _ _ _ _ hne, Below.heap_setCell _ _ _ _ hne, Below.heap_setCell _ _ _ _ hne, Below.heap_setCell _ _ _ _ hne, Below.heap_setCell _ _ _ _ hne, Below.heap_setCell _ _ _ _ hne]
        · go_simp
          refine hK _ _ (SK.out _ (gK.alloc (.cells #[.int .i64 0, .int .i64 0, .slice none 0 0, .slice none 0 0, .slice none 0 0, .slice none 0 0, .slice none 0 0] 48))) (fun hHeld => ?_)
          clear hK K
          replace OX0 := Lib.hid (bkGr _ _ _ OX0.out ((Gw.refl _).alloc (.cells #[.int .i64 0, .int .i64 0, .slice none 0 0, .slice none 0 0, .slice none 0 0, .slice none 0 0, .slice none 0 0] 48)))
          replace OX1 := Lib.hid (coGr _ _ _ OX1.out ((Gw.refl _).alloc (.cells #[.int .i64 0, .int .i64 0, .slice none 0 0, .slice none 0 0, .slice none 0 0, .slice none 0 0, .slice none 0 0] 48)))
          have HT := Lib.hid (zAt.new wt1 #[.int .i64 0, .int .i64 0, .slice none 0 0, .slice none 0 0, .slice none 0 0, .slice none 0 0, .slice none 0 0] 48)
          have TG := Lib.hid gK.size
          replace gK := gK.alloc (.cells #[.int .i64 0, .int .i64 0, .slice none 0 0, .slice none 0 0, .slice none 0 0, .slice none 0 0, .slice none 0 0] 48)
          try simp only [Act.put, List.setIfInBounds_toArray, List.set_cons_zero, List.set_cons_succ]
          generalize wt1.alloc (.cells #[.int .i64 0, .int .i64 0, .slice none 0 0, .slice none 0 0, .slice none 0 0, .slice none 0 0, .slice none 0 0] 48) = wl2 at *
          generalize wt1.heap.size = T at *
          refine wpAnyH_ready (rs := [4]) (by kernel_rfl) (by simp) ?_
          refine AllReadyH.cons (o := { dst := some 32, op := _, type := _, pos := _, after := _, guard := _ }) rfl (fun K hK => ?_) AllReadyH.nil
          go_simp
          go_at_call 15
          refine (KS.out x0 x1 _ gK OX0.out OX1.out HX0.out HX1.out).mono ?_
          rintro e wf2l ⟨v, rfl, hv, nv, g1⟩
          have HV := Lib.hid hv
          have NV := Lib.hid nv
          have VB := Lib.hid gK.size
          have HTV := Lib.hid (show T ∉ LK.bl v from fun e => by have := (nv.2.2 _ e).1; have := HT.out.lt; omega)
          replace HT := Lib.hid (HT.out.grow g1)
          replace gK := gK.trans g1
          clear hv nv g1
          go_wp2_with fail
          refine hK.out _ _ (SK.out _ gK) (fun hHeld => ?_)
          clear hK K
          try simp only [Act.put, List.setIfInBounds_toArray, List.set_cons_zero, List.set_cons_succ]
          refine wpAnyH_take (i := 5) (oi := { dst := some 27, op := _, type := _, pos := _, after := _, guard := _ }) (v := .tuple #[.agg #[.int .i64 v.k, .int .i64 v.v, .slice v.da v.ds.length v.dc, .slice v.a v.ks.length v.cap, .slice none 0 0, .slice none 0 0, .slice none 0 0], .int .i64 cd]) rfl (by kernel_rfl) (by kernel_rfl) (by kernel_rfl) (fun _ _ _ h => h) (Or.inl ⟨by rfl, ?_⟩) (by assumption) ?_
          · intro w hSw; obtain ⟨p0_0, p1_0, p1_1, p1_2, p1_3⟩ := hSw; go_simp
          try simp only [Act.put, List.setIfInBounds_toArray, List.set_cons_zero, List.set_cons_succ]
          refine wpAnyH_take (i := 6) (oi := { dst := some 33, op := _, type := _, pos := _, after := _, guard := _ }) (v := .agg #[.int .i64 v.k, .int .i64 v.v, .slice v.da v.ds.length v.dc, .slice v.a v.ks.length v.cap, .slice none 0 0, .slice none 0 0, .slice none 0 0]) rfl (by kernel_rfl) (by kernel_rfl) (by kernel_rfl) (fun _ _ _ h => h) (Or.inl ⟨by rfl, ?_⟩) (by assumption) ?_
          · intro w hSw; obtain ⟨p0_0, p1_0, p1_1, p1_2, p1_3⟩ := hSw; go_simp
          try simp only [Act.put, List.setIfInBounds_toArray, List.set_cons_zero, List.set_cons_succ]
          refine wpAnyH_take (i := 7) (oi := { dst := some 34, op := _, type := _, pos := _, after := _, guard := _ }) (v := .int .i64 cd) rfl (by kernel_rfl) (by kernel_rfl) (by kernel_rfl) (fun _ _ _ h => h) (Or.inl ⟨by rfl, ?_⟩) (by assumption) ?_
          · intro w hSw; obtain ⟨p0_0, p1_0, p1_1, p1_2, p1_3⟩ := hSw; go_simp
          try simp only [Act.put, List.setIfInBounds_toArray, List.set_cons_zero, List.set_cons_succ]
          have z0 := HT.out.c 0 _ rfl
          have zf0 := HT.out.fz 0
          have z1 := HT.out.c 1 _ rfl
          have zf1 := HT.out.fz 1
          have z2 := HT.out.c 2 _ rfl
          have zf2 := HT.out.fz 2
          have z3 := HT.out.c 3 _ rfl
          have zf3 := HT.out.fz 3
          have z4 := HT.out.c 4 _ rfl
          have zf4 := HT.out.fz 4
          have z5 := HT.out.c 5 _ rfl
          have zf5 := HT.out.fz 5
          have z6 := HT.out.c 6 _ rfl
          have zf6 := HT.out.fz 6
          refine wpAnyH_ready (rs := [9]) (by kernel_rfl) (by simp) ?_
          refine AllReadyH.cons (o := { dst := none, op := _, type := _, pos := _, after := _, guard := _ }) rfl (fun K hK => ?_) AllReadyH.nil
          go_simp
          refine hK _ _ (SK.out _ (Below.setCell (Below.setCell (Below.setCell (Below.setCell (Below.setCell (Below.setCell (Below.setCell gK TG.out _) TG.out _) TG.out _) TG.out _) TG.out _) TG.out _) TG.out _)) (fun hHeld => ?_)
          clear hK K
          try simp only [Act.put, List.setIfInBounds_toArray, List.set_cons_zero, List.set_cons_succ]
          refine wpAnyH_take (i := 10) (oi := { dst := some 7, op := _, type := _, pos := _, after := _, guard := _ }) (v := .int .i64 cd) rfl (by kernel_rfl) (by kernel_rfl) (by kernel_rfl) (fun _ _ _ h => h) (Or.inl ⟨by rfl, ?_⟩) (by assumption) ?_
          · intro w hSw; obtain ⟨p0_0, p1_0, p1_1, p1_2, p1_3⟩ := hSw; go_simp
          try simp only [Act.put, List.setIfInBounds_toArray, List.set_cons_zero, List.set_cons_succ]
          refine wpAnyH_done (by kernel_rfl) ?_ _
          go_wp2_with fail
          go_meet
          case rel =>
            have hT0 := HT.out.2
            refine ⟨T, v, rfl, rfl, TG.out, ⟨#[.int .i64 v.k, .int .i64 v.v, .slice v.da v.ds.length v.dc, .slice v.a v.ks.length v.cap, .slice none 0 0, .slice none 0 0, .slice none 0 0], 48, by simp [World.setCell, Array.getElem?_modify, hT0], rfl⟩, HV.out, (gNew.same coFr NV.out fun y hy => ?_).mono (by have := VB.out; omega), (Below.setCell (Below.setCell (Below.setCell (Below.setCell (Below.setCell (Below.setCell (Below.setCell gK TG.out _) TG.out _) TG.out _) TG.out _) TG.out _) TG.out _) TG.out _)⟩
            have hne : y ≠ T := fun e => HTV.out (e ▸ hy)
            rw [Below.heap_setCell _ _ _ _ hne, Below.heap_setCell _ _ _ _ hne, Below.heap_setCell _ _ _ _ hne, Below.heap_setCell _ _ _ _ hne, Below.heap_setCell _ _ _ _ hne, Below.heap_setCell _ _ _ _ hne, Below.heap_setCell _ _ _ _ hne]
      · go_simp
        refine hK _ _ (SK.out _ (gK.alloc (.cells #[.int .i64 0, .int .i64 0, .slice none 0 0, .slice none 0 0, .slice none 0 0, .slice none 0 0, .slice none 0 0] 48))) (fun hHeld => ?_)
        clear hK K
        replace OX0 := Lib.hid (bkGr _ _ _ OX0.out ((Gw.refl _).alloc (.cells #[.int .i64 0, .int .i64 0, .slice none 0 0, .slice none 0 0, .slice none 0 0, .slice none 0 0, .slice none 0 0] 48)))
        have HT := Lib.hid (zAt.new wt0 #[.int .i64 0, .int .i64 0, .slice none 0 0, .slice none 0 0, .slice none 0 0, .slice none 0 0, .slice none 0 0] 48)
        have TG := Lib.hid gK.size
        replace gK := gK.alloc (.cells #[.int .i64 0, .int .i64 0, .slice none 0 0, .slice none 0 0, .slice none 0 0, .slice none 0 0, .slice none 0 0] 48)
        try simp only [Act.put, List.setIfInBounds_toArray, List.set_cons_zero, List.set_cons_succ]
        generalize wt0.alloc (.cells #[.int .i64 0, .int .i64 0, .slice none 0 0, .slice none 0 0, .slice none 0 0, .slice none 0 0, .slice none 0 0] 48) = wl1 at *
        generalize wt0.heap.size = T at *
        refine wpAnyH_ready (rs := [3]) (by kernel_rfl) (by simp) ?_
        refine AllReadyH.cons (o := { dst := some 31, op := _, type := _, pos := _, after := _, guard := _ }) rfl (fun K hK => ?_) AllReadyH.nil
        go_simp
        go_at_call 16
        refine (laws_toCore a1 _ (coGr _ _ _ O1.out gK) (by have := HZ.out; omega)).mono ?_
        rintro e wt1l ⟨x1, rfl, hx, nx, g1⟩
        have HX1 := Lib.hid hx
        have OX1 := Lib.hid nx.1
        replace OX0 := Lib.hid (bkGr _ _ _ OX0.out g1)
        replace HT := Lib.hid (HT.out.grow g1)
        replace gK := gK.trans g1
        clear hx nx g1
        go_wp2_with fail
        refine hK.out _ _ (SK.out _ gK) (fun hHeld => ?_)
        clear hK K
        try simp only [Act.put, List.setIfInBounds_toArray, List.set_cons_zero, List.set_cons_succ]
        refine wpAnyH_ready (rs := [4]) (by kernel_rfl) (by simp) ?_
        refine AllReadyH.cons (o := { dst := some 32, op := _, type := _, pos := _, after := _, guard := _ }) rfl (fun K hK => ?_) AllReadyH.nil
        go_simp
        go_at_call 15
        refine (KS.out x0 x1 _ gK OX0.out OX1.out HX0.out HX1.out).mono ?_
        rintro e wf2l ⟨v, rfl, hv, nv, g1⟩
        have HV := Lib.hid hv
        have NV := Lib.hid nv
        have VB := Lib.hid gK.size
        have HTV := Lib.hid (show T ∉ LK.bl v from fun e => by have := (nv.2.2 _ e).1; have := HT.out.lt; omega)
        replace HT := Lib.hid (HT.out.grow g1)
        replace gK := gK.trans g1
        clear hv nv g1
        go_wp2_with fail
        refine hK.out _ _ (SK.out _ gK) (fun hHeld => ?_)
        clear hK K
        try simp only [Act.put, List.setIfInBounds_toArray, List.set_cons_zero, List.set_cons_succ]
        refine wpAnyH_take (i := 5) (oi := { dst := some 27, op := _, type := _, pos := _, after := _, guard := _ }) (v := .tuple #[.agg #[.int .i64 v.k, .int .i64 v.v, .slice v.da v.ds.length v.dc, .slice v.a v.ks.length v.cap, .slice none 0 0, .slice none 0 0, .slice none 0 0], .int .i64 cd]) rfl (by kernel_rfl) (by kernel_rfl) (by kernel_rfl) (fun _ _ _ h => h) (Or.inl ⟨by rfl, ?_⟩) (by assumption) ?_
        · intro w hSw; obtain ⟨p0_0, p1_0, p1_1, p1_2, p1_3⟩ := hSw; go_simp
        try simp only [Act.put, List.setIfInBounds_toArray, List.set_cons_zero, List.set_cons_succ]
        refine wpAnyH_take (i := 6) (oi := { dst := some 33, op := _, type := _, pos := _, after := _, guard := _ }) (v := .agg #[.int .i64 v.k, .int .i64 v.v, .slice v.da v.ds.length v.dc, .slice v.a v.ks.length v.cap, .slice none 0 0, .slice none 0 0, .slice none 0 0]) rfl (by kernel_rfl) (by kernel_rfl) (by kernel_rfl) (fun _ _ _ h => h) (Or.inl ⟨by rfl, ?_⟩) (by assumption) ?_
        · intro w hSw; obtain ⟨p0_0, p1_0, p1_1, p1_2, p1_3⟩ := hSw; go_simp
        try simp only [Act.put, List.setIfInBounds_toArray, List.set_cons_zero, List.set_cons_succ]
        refine wpAnyH_take (i := 7) (oi := { dst := some 34, op := _, type := _, pos := _, after := _, guard := _ }) (v := .int .i64 cd) rfl (by kernel_rfl) (by kernel_rfl) (by kernel_rfl) (fun _ _ _ h => h) (Or.inl ⟨by rfl, ?_⟩) (by assumption) ?_
        · intro w hSw; obtain ⟨p0_0, p1_0, p1_1, p1_2, p1_3⟩ := hSw; go_simp
        try simp only [Act.put, List.setIfInBounds_toArray, List.set_cons_zero, List.set_cons_succ]
        have z0 := HT.out.c 0 _ rfl
        have zf0 := HT.out.fz 0
        have z1 := HT.out.c 1 _ rfl
        have zf1 := HT.out.fz 1
        have z2 := HT.out.c 2 _ rfl
        have zf2 := HT.out.fz 2
        have z3 := HT.out.c 3 _ rfl
        have zf3 := HT.out.fz 3
        have z4 := HT.out.c 4 _ rfl
        have zf4 := HT.out.fz 4
        have z5 := HT.out.c 5 _ rfl
        have zf5 := HT.out.fz 5
        have z6 := HT.out.c 6 _ rfl
        have zf6 := HT.out.fz 6
        refine wpAnyH_ready (rs := [9]) (by kernel_rfl) (by simp) ?_
        refine AllReadyH.cons (o := { dst := none, op := _, type := _, pos := _, after := _, guard := _ }) rfl (fun K hK => ?_) AllReadyH.nil
        go_simp
        refine hK _ _ (SK.out _ (Below.setCell (Below.setCell (Below.setCell (Below.setCell (Below.setCell (Below.setCell (Below.setCell gK TG.out _) TG.out _) TG.out _) TG.out _) TG.out _) TG.out _) TG.out _)) (fun hHeld => ?_)
        clear hK K
        try simp only [Act.put, List.setIfInBounds_toArray, List.set_cons_zero, List.set_cons_succ]
        refine wpAnyH_take (i := 10) (oi := { dst := some 7, op := _, type := _, pos := _, after := _, guard := _ }) (v := .int .i64 cd) rfl (by kernel_rfl) (by kernel_rfl) (by kernel_rfl) (fun _ _ _ h => h) (Or.inl ⟨by rfl, ?_⟩) (by assumption) ?_
        · intro w hSw; obtain ⟨p0_0, p1_0, p1_1, p1_2, p1_3⟩ := hSw; go_simp
        try simp only [Act.put, List.setIfInBounds_toArray, List.set_cons_zero, List.set_cons_succ]
        refine wpAnyH_done (by kernel_rfl) ?_ _
        go_wp2_with fail
        go_meet
        case rel =>
          have hT0 := HT.out.2
          refine ⟨T, v, rfl, rfl, TG.out, ⟨#[.int .i64 v.k, .int .i64 v.v, .slice v.da v.ds.length v.dc, .slice v.a v.ks.length v.cap, .slice none 0 0, .slice none 0 0, .slice none 0 0], 48, by simp [World.setCell, Array.getElem?_modify, hT0], rfl⟩, HV.out, (gNew.same coFr NV.out fun y hy => ?_).mono (by have := VB.out; omega), (Below.setCell (Below.setCell (Below.setCell (Below.setCell (Below.setCell (Below.setCell (Below.setCell gK TG.out _) TG.out _) TG.out _) TG.out _) TG.out _) TG.out _) TG.out _)⟩
          have hne : y ≠ T := fun e => HTV.out (e ▸ hy)
          rw [Below.heap_setCell _ _ _ _ hne, Below.heap_setCell _ _ _ _ hne, Below.heap_setCell _ _ _ _ hne, Below.heap_setCell _ _ _ _ hne, Below.heap_setCell _ _ _ _ hne, Below.heap_setCell _ _ _ _ hne, Below.heap_setCell _ _ _ _ hne]
    · go_simp
      refine hK _ _ (SK.out _ (gK.alloc (.cells #[.int .i64 0, .int .i64 0, .slice none 0 0, .slice none 0 0, .slice none 0 0, .slice none 0 0, .slice none 0 0] 48))) (fun hHeld => ?_)
      clear hK K
      have HT := Lib.hid (zAt.new wD #[.int .i64 0, .int .i64 0, .slice none 0 0, .slice none 0 0, .slice none 0 0, .slice none 0 0, .slice none 0 0] 48)
      have TG := Lib.hid gK.size
      replace gK := gK.alloc (.cells #[.int .i64 0, .int .i64 0, .slice none 0 0, .slice none 0 0, .slice none 0 0, .slice none 0 0, .slice none 0 0] 48)
      try simp only [Act.put, List.setIfInBounds_toArray, List.set_cons_zero, List.set_cons_succ]
      generalize wD.alloc (.cells #[.int .i64 0, .int .i64 0, .slice none 0 0, .slice none 0 0, .slice none 0 0, .slice none 0 0, .slice none 0 0] 48) = wl0 at *
      generalize wD.heap.size = T at *
      refine wpAnyH_ready (rs := [1]) (by kernel_rfl) (by simp) ?_
      refine AllReadyH.cons (o := { dst := some 29, op := _, type := _, pos := _, after := _, guard := _ }) rfl (fun K hK => ?_) AllReadyH.nil
      go_simp
      go_at_call 9
      refine (ly_toBook a0 _ (bkGr _ _ _ O0.out gK) (by have := HZ.out; omega)).mono ?_
      rintro e wt0l ⟨x0, rfl, hx, nx, g1⟩
      have HX0 := Lib.hid hx
      have OX0 := Lib.hid nx.1
      replace HT := Lib.hid (HT.out.grow g1)
      replace gK := gK.trans g1
      clear hx nx g1
      go_wp2_with fail
      refine hK.out _ _ (SK.out _ gK) (fun hHeld => ?_)
      clear hK K
      try simp only [Act.put, List.setIfInBounds_toArray, List.set_cons_zero, List.set_cons_succ]
      refine wpAnyH_ready (rs := [3]) (by kernel_rfl) (by simp) ?_
      refine AllReadyH.cons (o := { dst := some 31, op := _, type := _, pos := _, after := _, guard := _ }) rfl (fun K hK => ?_) AllReadyH.nil
      go_simp
      go_at_call 16
      refine (laws_toCore a1 _ (coGr _ _ _ O1.out gK) (by have := HZ.out; omega)).mono ?_
      rintro e wt1l ⟨x1, rfl, hx, nx, g1⟩
      have HX1 := Lib.hid hx
      have OX1 := Lib.hid nx.1
      replace OX0 := Lib.hid (bkGr _ _ _ OX0.out g1)
      replace HT := Lib.hid (HT.out.grow g1)
      replace gK := gK.trans g1
      clear hx nx g1
      go_wp2_with fail
      refine hK.out _ _ (SK.out _ gK) (fun hHeld => ?_)
      clear hK K
      try simp only [Act.put, List.setIfInBounds_toArray, List.set_cons_zero, List.set_cons_succ]
      refine wpAnyH_ready (rs := [4]) (by kernel_rfl) (by simp) ?_
      refine AllReadyH.cons (o := { dst := some 32, op := _, type := _, pos := _, after := _, guard := _ }) rfl (fun K hK => ?_) AllReadyH.nil
      go_simp
      go_at_call 15
      refine (KS.out x0 x1 _ gK OX0.out OX1.out HX0.out HX1.out).mono ?_
      rintro e wf2l ⟨v, rfl, hv, nv, g1⟩
      have HV := Lib.hid hv
      have NV := Lib.hid nv
      have VB := Lib.hid gK.size
      have HTV := Lib.hid (show T ∉ LK.bl v from fun e => by have := (nv.2.2 _ e).1; have := HT.out.lt; omega)
      replace HT := Lib.hid (HT.out.grow g1)
      replace gK := gK.trans g1
      clear hv nv g1
      go_wp2_with fail
      refine hK.out _ _ (SK.out _ gK) (fun hHeld => ?_)
      clear hK K
      try simp only [Act.put, List.setIfInBounds_toArray, List.set_cons_zero, List.set_cons_succ]
      refine wpAnyH_take (i := 5) (oi := { dst := some 27, op := _, type := _, pos := _, after := _, guard := _ }) (v := .tuple #[.agg #[.int .i64 v.k, .int .i64 v.v, .slice v.da v.ds.length v.dc, .slice v.a v.ks.length v.cap, .slice none 0 0, .slice none 0 0, .slice none 0 0], .int .i64 cd]) rfl (by kernel_rfl) (by kernel_rfl) (by kernel_rfl) (fun _ _ _ h => h) (Or.inl ⟨by rfl, ?_⟩) (by assumption) ?_
      · intro w hSw; obtain ⟨p0_0, p1_0, p1_1, p1_2, p1_3⟩ := hSw; go_simp
      try simp only [Act.put, List.setIfInBounds_toArray, List.set_cons_zero, List.set_cons_succ]
      refine wpAnyH_take (i := 6) (oi := { dst := some 33, op := _, type := _, pos := _, after := _, guard := _ }) (v := .agg #[.int .i64 v.k, .int .i64 v.v, .slice v.da v.ds.length v.dc, .slice v.a v.ks.length v.cap, .slice none 0 0, .slice none 0 0, .slice none 0 0]) rfl (by kernel_rfl) (by kernel_rfl) (by kernel_rfl) (fun _ _ _ h => h) (Or.inl ⟨by rfl, ?_⟩) (by assumption) ?_
      · intro w hSw; obtain ⟨p0_0, p1_0, p1_1, p1_2, p1_3⟩ := hSw; go_simp
      try simp only [Act.put, List.setIfInBounds_toArray, List.set_cons_zero, List.set_cons_succ]
      refine wpAnyH_take (i := 7) (oi := { dst := some 34, op := _, type := _, pos := _, after := _, guard := _ }) (v := .int .i64 cd) rfl (by kernel_rfl) (by kernel_rfl) (by kernel_rfl) (fun _ _ _ h => h) (Or.inl ⟨by rfl, ?_⟩) (by assumption) ?_
      · intro w hSw; obtain ⟨p0_0, p1_0, p1_1, p1_2, p1_3⟩ := hSw; go_simp
      try simp only [Act.put, List.setIfInBounds_toArray, List.set_cons_zero, List.set_cons_succ]
      have z0 := HT.out.c 0 _ rfl
      have zf0 := HT.out.fz 0
      have z1 := HT.out.c 1 _ rfl
      have zf1 := HT.out.fz 1
      have z2 := HT.out.c 2 _ rfl
      have zf2 := HT.out.fz 2
      have z3 := HT.out.c 3 _ rfl
      have zf3 := HT.out.fz 3
      have z4 := HT.out.c 4 _ rfl
      have zf4 := HT.out.fz 4
      have z5 := HT.out.c 5 _ rfl
      have zf5 := HT.out.fz 5
      have z6 := HT.out.c 6 _ rfl
      have zf6 := HT.out.fz 6
      refine wpAnyH_ready (rs := [9]) (by kernel_rfl) (by simp) ?_
      refine AllReadyH.cons (o := { dst := none, op := _, type := _, pos := _, after := _, guard := _ }) rfl (fun K hK => ?_) AllReadyH.nil
      go_simp
      refine hK _ _ (SK.out _ (Below.setCell (Below.setCell (Below.setCell (Below.setCell (Below.setCell (Below.setCell (Below.setCell gK TG.out _) TG.out _) TG.out _) TG.out _) TG.out _) TG.out _) TG.out _)) (fun hHeld => ?_)
      clear hK K
      try simp only [Act.put, List.setIfInBounds_toArray, List.set_cons_zero, List.set_cons_succ]
      refine wpAnyH_take (i := 10) (oi := { dst := some 7, op := _, type := _, pos := _, after := _, guard := _ }) (v := .int .i64 cd) rfl (by kernel_rfl) (by kernel_rfl) (by kernel_rfl) (fun _ _ _ h => h) (Or.inl ⟨by rfl, ?_⟩) (by assumption) ?_
      · intro w hSw; obtain ⟨p0_0, p1_0, p1_1, p1_2, p1_3⟩ := hSw; go_simp
      try simp only [Act.put, List.setIfInBounds_toArray, List.set_cons_zero, List.set_cons_succ]
      refine wpAnyH_done (by kernel_rfl) ?_ _
      go_wp2_with fail
      go_meet
      case rel =>
        have hT0 := HT.out.2
        refine ⟨T, v, rfl, rfl, TG.out, ⟨#[.int .i64 v.k, .int .i64 v.v, .slice v.da v.ds.length v.dc, .slice v.a v.ks.length v.cap, .slice none 0 0, .slice none 0 0, .slice none 0 0], 48, by simp [World.setCell, Array.getElem?_modify, hT0], rfl⟩, HV.out, (gNew.same coFr NV.out fun y hy => ?_).mono (by have := VB.out; omega), (Below.setCell (Below.setCell (Below.setCell (Below.setCell (Below.setCell (Below.setCell (Below.setCell gK TG.out _) TG.out _) TG.out _) TG.out _) TG.out _) TG.out _) TG.out _)⟩
        have hne : y ≠ T := fun e => HTV.out (e ▸ hy)
        rw [Below.heap_setCell _ _ _ _ hne, Below.heap_setCell _ _ _ _ hne, Below.heap_setCell _ _ _ _ hne, Below.heap_setCell _ _ _ _ hne, Below.heap_setCell _ _ _ _ hne, Below.heap_setCell _ _ _ _ hne, Below.heap_setCell _ _ _ _ hne]
  obtain ⟨T, v, rfl, rfl, hTw, BT, hv, V, gC⟩ := hcut
  have HV := Lib.hid hv
  obtain ⟨sC, hsC⟩ : ∃ s, s = wc.heap.size := ⟨_, rfl⟩
  have VB := Lib.hid (show ∀ y ∈ LK.bl v, y < sC from fun y hy => by rw [hsC]; exact (V.2.2 y hy).2.lt)
  have AL := Lib.hid (show w.heap.size < wS1.heap.size ∧ w.heap.size + 1 < wS1.heap.size from ⟨A0.out.lt, A1.out.lt⟩)
  have OR0 := Lib.hid (show wS1.heap.size ≤ T ∧ T < sC from ⟨hTw, by rw [hsC]; exact BT.lt⟩)
  have SZ := Lib.hid (show sC ≤ wc.heap.size by omega)
  clear hv hTw hsC
  replace BT := Lib.hid BT
  replace V := Lib.hid V
  replace gC := Lib.hid gC
  have AQ := A0.out.grow gC.out
  have p0 := AQ.c 0 _ rfl
  clear AQ
  go_wp2_with fail
  refine (ly_toBook a0 _ (bkGr _ _ _ O0.out gC.out) (by have := HZ.out; omega)).mono ?_
  rintro e w4 ⟨x0, rfl, hx, nx, g4⟩
  have HX0 := Lib.hid hx
  clear hx p0
  have XB0 := Lib.hid (show ∀ z ∈ bkB x0, sC ≤ z ∧ z < w4.heap.size from fun z hz => ⟨by have := (nx.2.2 z hz).1; have := SZ.out; omega, (nx.2.2 z hz).2.lt⟩)
  have gA : Gw wc (w4.alloc (.cells #[.slice x0.a x0.ks.length x0.cap] 39)) := g4.alloc _
  replace BT := Lib.hid (BT.out.grow gA)
  replace V := Lib.hid (gNew.grow coGr V.out gA)
  replace gC := Lib.hid (gC.out.trans gA)
  have BX0 := Lib.hid (bAt.new (w := w4) (cs := #[.slice x0.a x0.ks.length x0.cap]) (e := 39) rfl : bAt bkE _ _ x0)
  have X0 := Lib.hid (gNew.grow bkGr nx ((Gw.refl w4).alloc (.cells #[.slice x0.a x0.ks.length x0.cap] 39)))
  have SZ' := Lib.hid (show sC ≤ w4.heap.size ∧ w4.heap.size + 1 ≤ (w4.alloc (.cells #[.slice x0.a x0.ks.length x0.cap] 39)).heap.size from ⟨by have := g4.size; have := SZ.out; omega, by simp⟩)
  clear SZ gA g4 nx
  go_upto_region 10 with (fail)
  generalize w4.alloc (.cells #[.slice x0.a x0.ks.length x0.cap] 39) = W4 at *
  obtain ⟨b0, hb⟩ : ∃ b, b = w4.heap.size := ⟨_, rfl⟩
  rw [← hb] at BX0 XB0 SZ'
  rw [← hb]
  clear hb
  have OR1 := Lib.hid (show sC ≤ b0 from SZ'.out.1)
  have SZ := Lib.hid (show b0 + 1 ≤ W4.heap.size from SZ'.out.2)
  clear SZ'
  have AQ := A1.out.grow gC.out
  have p0 := AQ.c 0 _ rfl
  have p1 := AQ.c 1 _ rfl
  have p2 := AQ.c 2 _ rfl
  have p3 := AQ.c 3 _ rfl
  clear AQ
  go_wp2_with fail
  refine (laws_toCore a1 _ (coGr _ _ _ O1.out gC.out) (by have := HZ.out; omega)).mono ?_
  rintro e w5 ⟨x1, rfl, hx, nx, g4⟩
  have HX1 := Lib.hid hx
  clear hx p0 p1 p2 p3
  have XB1 := Lib.hid (show ∀ z ∈ LK.bl x1, b0 + 1 ≤ z ∧ z < w5.heap.size from fun z hz => ⟨by have := (nx.2.2 z hz).1; have := SZ.out; omega, (nx.2.2 z hz).2.lt⟩)
  have gA : Gw W4 (w5.alloc (.cells #[.int .i64 x1.k, .int .i64 x1.v, .slice x1.da x1.ds.length x1.dc, .slice x1.a x1.ks.length x1.cap] 42)) := g4.alloc _
  replace BT := Lib.hid (BT.out.grow gA)
  replace BX0 := Lib.hid (BX0.out.grow gA)
  replace V := Lib.hid (gNew.grow coGr V.out gA)
  replace X0 := Lib.hid (gNew.grow bkGr X0.out gA)
  replace gC := Lib.hid (gC.out.trans gA)
  have BX1 := Lib.hid (bAt.new (w := w5) (cs := #[.int .i64 x1.k, .int .i64 x1.v, .slice x1.da x1.ds.length x1.dc, .slice x1.a x1.ks.length x1.cap]) (e := 42) rfl : bAt coE _ _ x1)
  have X1 := Lib.hid (gNew.grow coGr nx ((Gw.refl w5).alloc (.cells #[.int .i64 x1.k, .int .i64 x1.v, .slice x1.da x1.ds.length x1.dc, .slice x1.a x1.ks.length x1.cap] 42)))
  have SZ' := Lib.hid (show b0 + 1 ≤ w5.heap.size ∧ w5.heap.size + 1 ≤ (w5.alloc (.cells #[.int .i64 x1.k, .int .i64 x1.v, .slice x1.da x1.ds.length x1.dc, .slice x1.a x1.ks.length x1.cap] 42)).heap.size from ⟨by have := g4.size; have := SZ.out; omega, by simp⟩)
  clear SZ gA g4 nx
  go_upto_region 11 with (fail)
  generalize w5.alloc (.cells #[.int .i64 x1.k, .int .i64 x1.v, .slice x1.da x1.ds.length x1.dc, .slice x1.a x1.ks.length x1.cap] 42) = W5 at *
  obtain ⟨b1, hb⟩ : ∃ b, b = w5.heap.size := ⟨_, rfl⟩
  rw [← hb] at BX1 XB1 SZ'
  rw [← hb]
  clear hb
  have OR2 := Lib.hid (show b0 + 1 ≤ b1 from SZ'.out.1)
  have SZ := Lib.hid (show b1 + 1 ≤ W5.heap.size from SZ'.out.2)
  clear SZ'
  have p0_0 := BX0.out.c 0 _ rfl
  have p1_0 := BX1.out.c 0 _ rfl
  have p1_1 := BX1.out.c 1 _ rfl
  have p1_2 := BX1.out.c 2 _ rfl
  have p1_3 := BX1.out.c 3 _ rfl
  go_wp2_with fail
  refine (KI.out x0 x1 _ gC.out X0.out.1 X1.out.1 HX0.out HX1.out).mono ?_
  rintro e wu ⟨u, rfl, hu, nu, g6⟩
  have HU := Lib.hid hu
  clear hu p0_0 p1_0 p1_1 p1_2 p1_3
  have UB := Lib.hid (show ∀ z ∈ LK.bl u, b1 + 1 ≤ z ∧ z < wu.heap.size from fun z hz => ⟨by have := (nu.2.2 z hz).1; have := SZ.out; omega, (nu.2.2 z hz).2.lt⟩)
  have gA : Gw W5 (wu.alloc (.cells #[.int .i64 u.k, .int .i64 u.v, .slice u.da u.ds.length u.dc, .slice u.a u.ks.length u.cap, .slice none 0 0, .slice none 0 0, .slice none 0 0] 48)) := g6.alloc _
  replace BT := Lib.hid (BT.out.grow gA)
  replace BX0 := Lib.hid (BX0.out.grow gA)
  replace BX1 := Lib.hid (BX1.out.grow gA)
  replace V := Lib.hid (gNew.grow coGr V.out gA)
  replace X0 := Lib.hid (gNew.grow bkGr X0.out gA)
  replace X1 := Lib.hid (gNew.grow coGr X1.out gA)
  replace gC := Lib.hid (gC.out.trans gA)
  have BU := Lib.hid (bAt.new (w := wu) (cs := #[.int .i64 u.k, .int .i64 u.v, .slice u.da u.ds.length u.dc, .slice u.a u.ks.length u.cap, .slice none 0 0, .slice none 0 0, .slice none 0 0]) (e := 48) rfl : bAt ndoE _ _ u)
  have U := Lib.hid (gNew.grow coGr nu ((Gw.refl wu).alloc (.cells #[.int .i64 u.k, .int .i64 u.v, .slice u.da u.ds.length u.dc, .slice u.a u.ks.length u.cap, .slice none 0 0, .slice none 0 0, .slice none 0 0] 48)))
  have ORU := Lib.hid (show b1 + 1 ≤ wu.heap.size by have := g6.size; have := SZ.out; omega)
  clear SZ gA g6 nu
  go_upto_region 12 with (fail)
  generalize wu.alloc (.cells #[.int .i64 u.k, .int .i64 u.v, .slice u.da u.ds.length u.dc, .slice u.a u.ks.length u.cap, .slice none 0 0, .slice none 0 0, .slice none 0 0] 48) = WU at *
  obtain ⟨bU, hb⟩ : ∃ b, b = wu.heap.size := ⟨_, rfl⟩
  rw [← hb] at BU UB ORU
  rw [← hb]
  clear hb
  have hneq : (cd != cd) = false := by simp
  have p0 := BU.out.c 0 _ rfl
  have p1 := BU.out.c 1 _ rfl
  have p2 := BU.out.c 2 _ rfl
  have p3 := BU.out.c 3 _ rfl
  have p4 := BU.out.c 4 _ rfl
  have p5 := BU.out.c 5 _ rfl
  have p6 := BU.out.c 6 _ rfl
  have q0 := BT.out.c 0 _ rfl
  have q1 := BT.out.c 1 _ rfl
  have q2 := BT.out.c 2 _ rfl
  have q3 := BT.out.c 3 _ rfl
  have q4 := BT.out.c 4 _ rfl
  have q5 := BT.out.c 5 _ rfl
  have q6 := BT.out.c 6 _ rfl
  go_wp2_with fail
  refine (eq_ndof u v _ U.out.1 V.out.1 (HU.out.trans HV.out.symm)).mono ?_
  rintro e wq1 ⟨rfl, g7⟩
  clear p0 p1 p2 p3 p4 p5 p6 q0 q1 q2 q3 q4 q5 q6
  replace BT := Lib.hid (BT.out.grow g7)
  replace BX0 := Lib.hid (BX0.out.grow g7)
  replace BX1 := Lib.hid (BX1.out.grow g7)
  replace BU := Lib.hid (BU.out.grow g7)
  replace V := Lib.hid (gNew.grow coGr V.out g7)
  replace X0 := Lib.hid (gNew.grow bkGr X0.out g7)
  replace X1 := Lib.hid (gNew.grow coGr X1.out g7)
  replace U := Lib.hid (gNew.grow coGr U.out g7)
  replace gC := Lib.hid (gC.out.trans g7)
  clear g7
  go_upto_region 14 with (fail)
  have AQ := A0.out.grow gC.out
  have p0 := AQ.c 0 _ rfl
  have q0 := BX0.out.c 0 _ rfl
  have lA := cell_lt p0
  have lX := cell_lt q0
  clear AQ
  have o6 : bOk wq1.drew a0 := bkGr _ _ _ O0.out (gC.out.trans (Gw.refl _).drew)
  have y6 : bOk wq1.drew x0 := bkGr _ _ _ X0.out.1 (Gw.refl wq1).drew
  go_region_held3 (fun W => W.cell? ⟨w.heap.size, 0, none⟩ = some (.slice a0.a a0.ks.length a0.cap) ∧ W.cell? ⟨b0, 0, none⟩ = some (.slice x0.a x0.ks.length x0.cap))
    (first | exact ⟨p0, q0⟩ | exact ⟨(k6 _ _ lA).trans p0, (k6 _ _ lX).trans q0⟩ | exact ⟨(k7 _ _ lA).trans p0, (k7 _ _ lX).trans q0⟩)
    (first
      | (go_at_call 9; refine (ly_toBook a0 _ (by exact o6) (by have := HZ.out; omega)).mono ?_; rintro e wE0 ⟨z, rfl, hz', nz, ga⟩; have HZZ := Lib.hid hz'; clear hz'; have k6 : ∀ b o, b < wq1.heap.size → wE0.cell? ⟨b, o, none⟩ = wq1.cell? ⟨b, o, none⟩ := fun b o h => (bcell ga).1 b o h)
      | (go_at_call 12; refine (laws_eqBook x0 z _ (by exact bkGr _ _ _ y6 ga) nz.1 (by rw [HX0.out, HZZ.out])).mono ?_; rintro e wF0 ⟨rfl, gb⟩; have k7 : ∀ b o, b < wq1.heap.size → wF0.cell? ⟨b, o, none⟩ = wq1.cell? ⟨b, o, none⟩ := fun b o h => ((bcell gb).1 b o (Nat.lt_of_lt_of_le h ga.size)).trans (k6 b o h)))
  have gA : Gw wq1 wF0 := ((Gw.refl wq1).drew.trans ga).trans gb
  replace BT := Lib.hid (BT.out.grow gA)
  replace BX0 := Lib.hid (BX0.out.grow gA)
  replace BX1 := Lib.hid (BX1.out.grow gA)
  replace BU := Lib.hid (BU.out.grow gA)
  replace V := Lib.hid (gNew.grow coGr V.out gA)
  replace X0 := Lib.hid (gNew.grow bkGr X0.out gA)
  replace X1 := Lib.hid (gNew.grow coGr X1.out gA)
  replace U := Lib.hid (gNew.grow coGr U.out gA)
  replace gC := Lib.hid (gC.out.trans gA)
  clear gA ga gb k6 k7 o6 y6 lX lA p0 q0 HZZ nz
  go_upto_region 16 with (fail)
  have AQ := A1.out.grow gC.out
  have p0 := AQ.c 0 _ rfl
  have p1 := AQ.c 1 _ rfl
  have p2 := AQ.c 2 _ rfl
  have p3 := AQ.c 3 _ rfl
  have q0 := BX1.out.c 0 _ rfl
  have q1 := BX1.out.c 1 _ rfl
  have q2 := BX1.out.c 2 _ rfl
  have q3 := BX1.out.c 3 _ rfl
  have lA := cell_lt p0
  have lX := cell_lt q0
  clear AQ
  have o6 : LK.Ok wF0.drew a1 := coGr _ _ _ O1.out (gC.out.trans (Gw.refl _).drew)
  have y6 : LK.Ok wF0.drew x1 := coGr _ _ _ X1.out.1 (Gw.refl wF0).drew
  go_region_held3 (fun W => W.cell? ⟨w.heap.size + 1, 0, none⟩ = some (.int .i64 a1.k) ∧ W.cell? ⟨w.heap.size + 1, 1, none⟩ = some (.int .i64 a1.v) ∧ W.cell? ⟨w.heap.size + 1, 2, none⟩ = some (.slice a1.da a1.ds.length a1.dc) ∧ W.cell? ⟨w.heap.size + 1, 3, none⟩ = some (.slice a1.a a1.ks.length a1.cap) ∧ W.cell? ⟨b1, 0, none⟩ = some (.int .i64 x1.k) ∧ W.cell? ⟨b1, 1, none⟩ = some (.int .i64 x1.v) ∧ W.cell? ⟨b1, 2, none⟩ = some (.slice x1.da x1.ds.length x1.dc) ∧ W.cell? ⟨b1, 3, none⟩ = some (.slice x1.a x1.ks.length x1.cap))
    (first | exact ⟨p0, p1, p2, p3, q0, q1, q2, q3⟩ | exact ⟨(k6 _ _ lA).trans p0, (k6 _ _ lA).trans p1, (k6 _ _ lA).trans p2, (k6 _ _ lA).trans p3, (k6 _ _ lX).trans q0, (k6 _ _ lX).trans q1, (k6 _ _ lX).trans q2, (k6 _ _ lX).trans q3⟩ | exact ⟨(k7 _ _ lA).trans p0, (k7 _ _ lA).trans p1, (k7 _ _ lA).trans p2, (k7 _ _ lA).trans p3, (k7 _ _ lX).trans q0, (k7 _ _ lX).trans q1, (k7 _ _ lX).trans q2, (k7 _ _ lX).trans q3⟩)
    (first
      | (go_at_call 16; refine (laws_toCore a1 _ (by exact o6) (by have := HZ.out; omega)).mono ?_; rintro e wE1 ⟨z, rfl, hz', nz, ga⟩; have HZZ := Lib.hid hz'; clear hz'; have k6 : ∀ b o, b < wF0.heap.size → wE1.cell? ⟨b, o, none⟩ = wF0.cell? ⟨b, o, none⟩ := fun b o h => (bcell ga).1 b o h)
      | (go_at_call 18; refine (laws_eqCore x1 z _ (by exact coGr _ _ _ y6 ga) nz.1 (by rw [HX1.out, HZZ.out])).mono ?_; rintro e wF1 ⟨rfl, gb⟩; have k7 : ∀ b o, b < wF0.heap.size → wF1.cell? ⟨b, o, none⟩ = wF0.cell? ⟨b, o, none⟩ := fun b o h => ((bcell gb).1 b o (Nat.lt_of_lt_of_le h ga.size)).trans (k6 b o h)))
  have gA : Gw wF0 wF1 := ((Gw.refl wF0).drew.trans ga).trans gb
  replace BT := Lib.hid (BT.out.grow gA)
  replace BX0 := Lib.hid (BX0.out.grow gA)
  replace BX1 := Lib.hid (BX1.out.grow gA)
  replace BU := Lib.hid (BU.out.grow gA)
  replace V := Lib.hid (gNew.grow coGr V.out gA)
  replace X0 := Lib.hid (gNew.grow bkGr X0.out gA)
  replace X1 := Lib.hid (gNew.grow coGr X1.out gA)
  replace U := Lib.hid (gNew.grow coGr U.out gA)
  replace gC := Lib.hid (gC.out.trans gA)
  clear gA ga gb k6 k7 o6 y6 lX lA p0 p1 p2 p3 q0 q1 q2 q3 HZZ nz
  have KB0 := Lib.hid (show (1 : Nat) ≤ 1 from Nat.le_refl _)
  have MB0 := Lib.hid (mcle_Book HX0.out)
  have MB1 := Lib.hid (mcle_Core HX1.out)
  have q0 := BX0.out.c 0 _ rfl
  go_wp2_with fail
  have keyM := mark_Book x0 _ wF1 1 X0.out (Nat.le_refl _) (by have := MB0.out; have := HZ.out; omega)
  rw [show ((1 : Nat) : Int) = 1 from rfl] at keyM
  refine keyM.mono ?_
  clear keyM q0
  rintro e wm0 ⟨rfl, _, hc⟩
  replace BT := Lib.hid (BT.out.chg hc (fun hm => by have := XB0.out _ hm; have := OR0.out; have := OR1.out; have := OR2.out; have := ORU.out; have := AL.out; omega))
  replace BX1 := Lib.hid (BX1.out.chg hc (fun hm => by have := XB0.out _ hm; have := OR0.out; have := OR1.out; have := OR2.out; have := ORU.out; have := AL.out; omega))
  replace BU := Lib.hid (BU.out.chg hc (fun hm => by have := XB0.out _ hm; have := OR0.out; have := OR1.out; have := OR2.out; have := ORU.out; have := AL.out; omega))
  replace V := Lib.hid (gNew.chg coFr V.out hc (fun b hb hm => by have := XB0.out _ hm; have := VB.out _ hb; have := OR0.out; have := OR1.out; have := OR2.out; have := ORU.out; have := AL.out; omega))
  replace X1 := Lib.hid (gNew.chg coFr X1.out hc (fun b hb hm => by have := XB0.out _ hm; have := XB1.out _ hb; have := OR0.out; have := OR1.out; have := OR2.out; have := ORU.out; have := AL.out; omega))
  replace U := Lib.hid (gNew.chg coFr U.out hc (fun b hb hm => by have := XB0.out _ hm; have := UB.out _ hb; have := OR0.out; have := OR1.out; have := OR2.out; have := ORU.out; have := AL.out; omega))
  replace gC := Lib.hid (show Gw wS1 wm0 from Below.trans gC.out (hc.gw gC.out.size (fun b hb hm => by have := XB0.out _ hm; have := OR0.out; have := OR1.out; have := OR2.out; have := ORU.out; have := AL.out; omega)))
  clear hc
  clear BX0 X0
  obtain ⟨k1, hk⟩ : ∃ k, k = 1 + (mc_Book x0) := ⟨_, rfl⟩
  rw [← hk]
  have KQ1 := Lib.hid (show 1 ≤ k1 ∧ k1 ≤ 1 + (mc_Book x0) from ⟨by omega, by omega⟩)
  clear hk
  have q0 := BX1.out.c 0 _ rfl
  have q1 := BX1.out.c 1 _ rfl
  have q2 := BX1.out.c 2 _ rfl
  have q3 := BX1.out.c 3 _ rfl
  go_wp2_with fail
  have keyM := mark_Core x1 _ wm0 k1 X1.out (by have := KQ1.out; omega) (by have := MB0.out; have := MB1.out; have := KQ1.out; have := HZ.out; omega)
  refine keyM.mono ?_
  clear keyM q0 q1 q2 q3
  rintro e wm1 ⟨rfl, _, hc⟩
  replace BT := Lib.hid (BT.out.chg hc (fun hm => by have := XB1.out _ hm; have := OR0.out; have := OR1.out; have := OR2.out; have := ORU.out; have := AL.out; omega))
  replace BU := Lib.hid (BU.out.chg hc (fun hm => by have := XB1.out _ hm; have := OR0.out; have := OR1.out; have := OR2.out; have := ORU.out; have := AL.out; omega))
  replace V := Lib.hid (gNew.chg coFr V.out hc (fun b hb hm => by have := XB1.out _ hm; have := VB.out _ hb; have := OR0.out; have := OR1.out; have := OR2.out; have := ORU.out; have := AL.out; omega))
  replace U := Lib.hid (gNew.chg coFr U.out hc (fun b hb hm => by have := XB1.out _ hm; have := UB.out _ hb; have := OR0.out; have := OR1.out; have := OR2.out; have := ORU.out; have := AL.out; omega))
  replace gC := Lib.hid (show Gw wS1 wm1 from Below.trans gC.out (hc.gw gC.out.size (fun b hb hm => by have := XB1.out _ hm; have := OR0.out; have := OR1.out; have := OR2.out; have := ORU.out; have := AL.out; omega)))
  clear hc
  clear BX1 X1
  obtain ⟨k2, hk⟩ : ∃ k, k = k1 + (mc_Core x1) := ⟨_, rfl⟩
  rw [← hk]
  have KQ2 := Lib.hid (show 1 ≤ k2 ∧ k2 ≤ k1 + (mc_Core x1) from ⟨by have := KQ1.out; omega, by omega⟩)
  clear hk
  have hqk : ¬ ((k2 : Nat) : Int) < 0 := by omega
  have p0 := BU.out.c 0 _ rfl
  have p1 := BU.out.c 1 _ rfl
  have p2 := BU.out.c 2 _ rfl
  have p3 := BU.out.c 3 _ rfl
  have p4 := BU.out.c 4 _ rfl
  have p5 := BU.out.c 5 _ rfl
  have p6 := BU.out.c 6 _ rfl
  have q0 := BT.out.c 0 _ rfl
  have q1 := BT.out.c 1 _ rfl
  have q2 := BT.out.c 2 _ rfl
  have q3 := BT.out.c 3 _ rfl
  have q4 := BT.out.c 4 _ rfl
  have q5 := BT.out.c 5 _ rfl
  have q6 := BT.out.c 6 _ rfl
  go_wp2_with fail
  refine (eq_ndof u v _ U.out.1 V.out.1 (HU.out.trans HV.out.symm)).mono ?_
  rintro e wq2 ⟨rfl, g7⟩
  clear p0 p1 p2 p3 p4 p5 p6 q0 q1 q2 q3 q4 q5 q6
  replace BT := Lib.hid (BT.out.grow g7)
  replace BU := Lib.hid (BU.out.grow g7)
  replace V := Lib.hid (gNew.grow coGr V.out g7)
  replace U := Lib.hid (gNew.grow coGr U.out g7)
  replace gC := Lib.hid (gC.out.trans g7)
  clear g7 hqk
  have p0 := BU.out.c 0 _ rfl
  have p1 := BU.out.c 1 _ rfl
  have p2 := BU.out.c 2 _ rfl
  have p3 := BU.out.c 3 _ rfl
  have p4 := BU.out.c 4 _ rfl
  have p5 := BU.out.c 5 _ rfl
  have p6 := BU.out.c 6 _ rfl
  go_wp2_with fail
  have keyM := mark_ndof u _ wq2 1 U.out (Nat.le_refl _) (RB.out u HU.out)
  rw [show ((1 : Nat) : Int) = 1 from rfl] at keyM
  refine keyM.mono ?_
  clear keyM p0 p1 p2 p3 p4 p5 p6
  rintro e wmu ⟨rfl, hHK, hc⟩
  replace BT := Lib.hid (BT.out.chg hc (fun hm => by have := UB.out _ hm; have := OR0.out; have := OR1.out; have := OR2.out; have := ORU.out; have := AL.out; omega))
  replace BU := Lib.hid (BU.out.chg hc (fun hm => by have := UB.out _ hm; have := OR0.out; have := OR1.out; have := OR2.out; have := ORU.out; have := AL.out; omega))
  replace V := Lib.hid (gNew.chg coFr V.out hc (fun b hb hm => by have := UB.out _ hm; have := VB.out _ hb; have := OR0.out; have := OR1.out; have := OR2.out; have := ORU.out; have := AL.out; omega))
  replace gC := Lib.hid (show Gw wS1 wmu from Below.trans gC.out (hc.gw gC.out.size (fun b hb hm => by have := UB.out _ hm; have := OR0.out; have := OR1.out; have := OR2.out; have := ORU.out; have := AL.out; omega)))
  have HK := Lib.hid hHK
  clear hc U hHK
  obtain ⟨qm, hqm⟩ : ∃ k, k = 1 + (mc_Core u) := ⟨_, rfl⟩
  rw [← hqm] at HK
  rw [← hqm]
  clear hqm
  have hqm : ¬ ((qm : Nat) : Int) < 0 := by omega
  have p0 := BU.out.c 0 _ rfl
  have p1 := BU.out.c 1 _ rfl
  have p2 := BU.out.c 2 _ rfl
  have p3 := BU.out.c 3 _ rfl
  have p4 := BU.out.c 4 _ rfl
  have p5 := BU.out.c 5 _ rfl
  have p6 := BU.out.c 6 _ rfl
  go_wp2_with fail
  refine (HK.out wmu (Gw.refl _)).mono ?_
  rintro e wh ⟨rfl, g7⟩
  replace BT := Lib.hid (BT.out.grow g7)
  replace BU := Lib.hid (BU.out.grow g7)
  replace V := Lib.hid (gNew.grow coGr V.out g7)
  replace gC := Lib.hid (gC.out.trans g7)
  replace HK := Lib.hid (show ∀ W : World, Gw wh W → Calls Tryd.prog 22 #[.agg #[.int .i64 u.k, .int .i64 u.v, .slice u.da u.ds.length u.dc, .slice u.a u.ks.length u.cap, .slice none 0 0, .slice none 0 0, .slice none 0 0], .int .i64 ((1 : Nat) : Int)] W (HdN W qm) from fun W g => HK.out W (g7.trans g))
  clear p0 p1 p2 p3 p4 p5 p6 g7
  go_upto_region 31 with (fail)
  clear hqm
  have SK2 := Lib.hid (show ∀ W, Gw wh W → (fun W => W.cell? ⟨w.heap.size, 0, none⟩ = some (.slice a0.a a0.ks.length a0.cap) ∧ W.cell? ⟨w.heap.size + 1, 0, none⟩ = some (.int .i64 a1.k) ∧ W.cell? ⟨w.heap.size + 1, 1, none⟩ = some (.int .i64 a1.v) ∧ W.cell? ⟨w.heap.size + 1, 2, none⟩ = some (.slice a1.da a1.ds.length a1.dc) ∧ W.cell? ⟨w.heap.size + 1, 3, none⟩ = some (.slice a1.a a1.ks.length a1.cap)) W from fun W g => SK.out W (gC.out.trans g))
  have P0 := Lib.hid (bkGr _ _ _ O0.out gC.out)
  have P1 := Lib.hid (coGr _ _ _ O1.out gC.out)
  have KI2 := Lib.hid (show ∀ (x0 : LB) (x1 : LK) (W : World), Gw wh W → bOk W x0 → LK.Ok W x1 → LB.cs x0 = LB.cs a0 → LK.co x1 = LK.co a1 → Calls Tryd.prog 17 #[x0.val, x1.val] W (fun e w' => ∃ v : LK, e = .returned (.tuple #[.agg #[.int .i64 v.k, .int .i64 v.v, .slice v.da v.ds.length v.dc, .slice v.a v.ks.length v.cap, .slice none 0 0, .slice none 0 0, .slice none 0 0], .int .i64 cd]) ∧ LK.co v = rs ∧ gNew LK.Ok LK.bl W.heap.size w' v ∧ Gw W w') from fun x0 x1 W g => KI.out x0 x1 W (gC.out.trans g))
  clear HX0 XB0 HX1 XB1
  have HVV := Lib.hid HV.out
  clear VB
  go_cut [15, 16] from 15 to 101 (fun t6 t7 wx => ∃ (T : Nat) (v : LK), t6 = .pointer (some ⟨T, 0, none⟩) ∧ t7 = .int .i64 cd ∧ wh.heap.size ≤ T ∧ bAt ndoE wx T v ∧ LK.co v = rs ∧ gNew LK.Ok LK.bl wh.heap.size wx v ∧ Gw wh wx)
  case first =>
    clear HV
    refine wp_region_held_drew (S := fun W => W.cell? ⟨w.heap.size, 0, none⟩ = some (.slice a0.a a0.ks.length a0.cap) ∧ W.cell? ⟨w.heap.size + 1, 0, none⟩ = some (.int .i64 a1.k) ∧ W.cell? ⟨w.heap.size + 1, 1, none⟩ = some (.int .i64 a1.v) ∧ W.cell? ⟨w.heap.size + 1, 2, none⟩ = some (.slice a1.da a1.ds.length a1.dc) ∧ W.cell? ⟨w.heap.size + 1, 3, none⟩ = some (.slice a1.a a1.ks.length a1.cap)) (by kernel_rfl) ?_ (fun hHeld => ?_)
    · exact SK2.out _ (Gw.refl _).drew
    have gK : Gw wh wh.drew := (Gw.refl wh).drew
    generalize wh.drew = wD at *
    refine wpAnyH_take (i := 0) (oi := { dst := some 95, op := _, type := _, pos := _, after := _, guard := _ }) (v := a0.val) rfl (by kernel_rfl) (by kernel_rfl) (by kernel_rfl) (fun _ _ _ h => h) (Or.inl ⟨by rfl, ?_⟩) (by assumption) ?_
    · intro w hSw; obtain ⟨p0_0, p1_0, p1_1, p1_2, p1_3⟩ := hSw; go_simp
    try simp only [Act.put, List.setIfInBounds_toArray, List.set_cons_zero, List.set_cons_succ]
    refine wpAnyH_take (i := 2) (oi := { dst := some 97, op := _, type := _, pos := _, after := _, guard := _ }) (v := a1.val) rfl (by kernel_rfl) (by kernel_rfl) (by kernel_rfl) (fun _ _ _ h => h) (Or.inl ⟨by rfl, ?_⟩) (by assumption) ?_
    · intro w hSw; obtain ⟨p0_0, p1_0, p1_1, p1_2, p1_3⟩ := hSw; go_simp
    try simp only [Act.put, List.setIfInBounds_toArray, List.set_cons_zero, List.set_cons_succ]
    refine wpAnyH_ready (rs := [1, 8]) (by kernel_rfl) (by simp) ?_
    refine AllReadyH.cons (o := { dst := some 96, op := _, type := _, pos := _, after := _, guard := _ }) rfl (fun K hK => ?_) (AllReadyH.cons (o := { dst := some 15, op := _, type := _, pos := _, after := _, guard := _ }) rfl (fun K hK => ?_) AllReadyH.nil)
    · go_simp
      go_at_call 9
      refine (ly_toBook a0 _ (bkGr _ _ _ P0.out gK) (by have := HZ.out; omega)).mono ?_
      rintro e wt0 ⟨x0, rfl, hx, nx, g1⟩
      have HX0 := Lib.hid hx
      have OX0 := Lib.hid nx.1
      replace gK := gK.trans g1
      clear hx nx g1
      go_wp2_with fail
      refine hK.out _ _ (SK2.out _ gK) (fun hHeld => ?_)
      clear hK K
      try simp only [Act.put, List.setIfInBounds_toArray, List.set_cons_zero, List.set_cons_succ]
      refine wpAnyH_ready (rs := [3, 8]) (by kernel_rfl) (by simp) ?_
      refine AllReadyH.cons (o := { dst := some 98, op := _, type := _, pos := _, after := _, guard := _ }) rfl (fun K hK => ?_) (AllReadyH.cons (o := { dst := some 15, op := _, type := _, pos := _, after := _, guard := _ }) rfl (fun K hK => ?_) AllReadyH.nil)
      · go_simp
        go_at_call 16
        refine (laws_toCore a1 _ (coGr _ _ _ P1.out gK) (by have := HZ.out; omega)).mono ?_
        rintro e wt1 ⟨x1, rfl, hx, nx, g1⟩
        have HX1 := Lib.hid hx
        have OX1 := Lib.hid nx.1
        replace OX0 := Lib.hid (bkGr _ _ _ OX0.out g1)
        replace gK := gK.trans g1
        clear hx nx g1
        go_wp2_with fail
        refine hK.out _ _ (SK2.out _ gK) (fun hHeld => ?_)
        clear hK K
        try simp only [Act.put, List.setIfInBounds_toArray, List.set_cons_zero, List.set_cons_succ]
        refine wpAnyH_ready (rs := [4, 8]) (by kernel_rfl) (by simp) ?_
        refine AllReadyH.cons (o := { dst := some 99, op := _, type := _, pos := _, after := _, guard := _ }) rfl (fun K hK => ?_) (AllReadyH.cons (o := { dst := some 15, op := _, type := _, pos := _, after := _, guard := _ }) rfl (fun K hK => ?_) AllReadyH.nil)
        · go_simp
          go_at_call 17
          refine (KI2.out x0 x1 _ gK OX0.out OX1.out HX0.out HX1.out).mono ?_
          rintro e wf2 ⟨v, rfl, hv, nv, g1⟩
          have HV := Lib.hid hv
          have NV := Lib.hid nv
          have VB := Lib.hid gK.size
          replace gK := gK.trans g1
          clear hv nv g1
          go_wp2_with fail
          refine hK.out _ _ (SK2.out _ gK) (fun hHeld => ?_)
          clear hK K
          try simp only [Act.put, List.setIfInBounds_toArray, List.set_cons_zero, List.set_cons_succ]
          refine wpAnyH_take (i := 5) (oi := { dst := some 94, op := _, type := _, pos := _, after := _, guard := _ }) (v := .tuple #[.agg #[.int .i64 v.k, .int .i64 v.v, .slice v.da v.ds.length v.dc, .slice v.a v.ks.length v.cap, .slice none 0 0, .slice none 0 0, .slice none 0 0], .int .i64 cd]) rfl (by kernel_rfl) (by kernel_rfl) (by kernel_rfl) (fun _ _ _ h => h) (Or.inl ⟨by rfl, ?_⟩) (by assumption) ?_
          · intro w hSw; obtain ⟨p0_0, p1_0, p1_1, p1_2, p1_3⟩ := hSw; go_simp
          try simp only [Act.put, List.setIfInBounds_toArray, List.set_cons_zero, List.set_cons_succ]
          refine wpAnyH_take (i := 6) (oi := { dst := some 100, op := _, type := _, pos := _, after := _, guard := _ }) (v := .agg #[.int .i64 v.k, .int .i64 v.v, .slice v.da v.ds.length v.dc, .slice v.a v.ks.length v.cap, .slice none 0 0, .slice none 0 0, .slice none 0 0]) rfl (by kernel_rfl) (by kernel_rfl) (by kernel_rfl) (fun _ _ _ h => h) (Or.inl ⟨by rfl, ?_⟩) (by assumption) ?_
          · intro w hSw; obtain ⟨p0_0, p1_0, p1_1, p1_2, p1_3⟩ := hSw; go_simp
          try simp only [Act.put, List.setIfInBounds_toArray, List.set_cons_zero, List.set_cons_succ]
          refine wpAnyH_take (i := 7) (oi := { dst := some 101, op := _, type := _, pos := _, after := _, guard := _ }) (v := .int .i64 cd) rfl (by kernel_rfl) (by kernel_rfl) (by kernel_rfl) (fun _ _ _ h => h) (Or.inl ⟨by rfl, ?_⟩) (by assumption) ?_
          · intro w hSw; obtain ⟨p0_0, p1_0, p1_1, p1_2, p1_3⟩ := hSw; go_simp
          try simp only [Act.put, List.setIfInBounds_toArray, List.set_cons_zero, List.set_cons_succ]
          refine wpAnyH_ready (rs := [8]) (by kernel_rfl) (by simp) ?_
          refine AllReadyH.cons (o := { dst := some 15, op := _, type := _, pos := _, after := _, guard := _ }) rfl (fun K hK => ?_) AllReadyH.nil
          go_simp
          refine hK _ _ (SK2.out _ (gK.alloc (.cells #[.int .i64 0, .int .i64 0, .slice none 0 0, .slice none 0 0, .slice none 0 0, .slice none 0 0, .slice none 0 0] 48))) (fun hHeld => ?_)
          clear hK K
          replace OX0 := Lib.hid (bkGr _ _ _ OX0.out ((Gw.refl _).alloc (.cells #[.int .i64 0, .int .i64 0, .slice none 0 0, .slice none 0 0, .slice none 0 0, .slice none 0 0, .slice none 0 0] 48)))
          replace OX1 := Lib.hid (coGr _ _ _ OX1.out ((Gw.refl _).alloc (.cells #[.int .i64 0, .int .i64 0, .slice none 0 0, .slice none 0 0, .slice none 0 0, .slice none 0 0, .slice none 0 0] 48)))
          have HT := Lib.hid (zAt.new wf2 #[.int .i64 0, .int .i64 0, .slice none 0 0, .slice none 0 0, .slice none 0 0, .slice none 0 0, .slice none 0 0] 48)
          have HTV := Lib.hid (show wf2.heap.size ∉ LK.bl v from fun e => by have := (NV.out.2.2 _ e).2.lt; omega)
          replace NV := Lib.hid (gNew.grow coGr NV.out ((Gw.refl _).alloc (.cells #[.int .i64 0, .int .i64 0, .slice none 0 0, .slice none 0 0, .slice none 0 0, .slice none 0 0, .slice none 0 0] 48)))
          have TG := Lib.hid gK.size
          replace gK := gK.alloc (.cells #[.int .i64 0, .int .i64 0, .slice none 0 0, .slice none 0 0, .slice none 0 0, .slice none 0 0, .slice none 0 0] 48)
          try simp only [Act.put, List.setIfInBounds_toArray, List.set_cons_zero, List.set_cons_succ]
          generalize wf2.alloc (.cells #[.int .i64 0, .int .i64 0, .slice none 0 0, .slice none 0 0, .slice none 0 0, .slice none 0 0, .slice none 0 0] 48) = wl2f at *
          generalize wf2.heap.size = T at *
          have z0 := HT.out.c 0 _ rfl
          have zf0 := HT.out.fz 0
          have z1 := HT.out.c 1 _ rfl
          have zf1 := HT.out.fz 1
          have z2 := HT.out.c 2 _ rfl
          have zf2 := HT.out.fz 2
          have z3 := HT.out.c 3 _ rfl
          have zf3 := HT.out.fz 3
          have z4 := HT.out.c 4 _ rfl
          have zf4 := HT.out.fz 4
          have z5 := HT.out.c 5 _ rfl
          have zf5 := HT.out.fz 5
          have z6 := HT.out.c 6 _ rfl
          have zf6 := HT.out.fz 6
          refine wpAnyH_ready (rs := [9]) (by kernel_rfl) (by simp) ?_
          refine AllReadyH.cons (o := { dst := none, op := _, type := _, pos := _, after := _, guard := _ }) rfl (fun K hK => ?_) AllReadyH.nil
          go_simp
          refine hK _ _ (SK2.out _ (Below.setCell (Below.setCell (Below.setCell (Below.setCell (Below.setCell (Below.setCell (Below.setCell gK TG.out _) TG.out _) TG.out _) TG.out _) TG.out _) TG.out _) TG.out _)) (fun hHeld => ?_)
          clear hK K
          try simp only [Act.put, List.setIfInBounds_toArray, List.set_cons_zero, List.set_cons_succ]
          refine wpAnyH_take (i := 10) (oi := { dst := some 16, op := _, type := _, pos := _, after := _, guard := _ }) (v := .int .i64 cd) rfl (by kernel_rfl) (by kernel_rfl) (by kernel_rfl) (fun _ _ _ h => h) (Or.inl ⟨by rfl, ?_⟩) (by assumption) ?_
          · intro w hSw; obtain ⟨p0_0, p1_0, p1_1, p1_2, p1_3⟩ := hSw; go_simp
          try simp only [Act.put, List.setIfInBounds_toArray, List.set_cons_zero, List.set_cons_succ]
          refine wpAnyH_done (by kernel_rfl) ?_ _
          go_wp2_with fail
          go_meet
          case rel =>
            have hT0 := HT.out.2
            refine ⟨T, v, rfl, rfl, TG.out, ⟨#[.int .i64 v.k, .int .i64 v.v, .slice v.da v.ds.length v.dc, .slice v.a v.ks.length v.cap, .slice none 0 0, .slice none 0 0, .slice none 0 0], 48, by simp [World.setCell, Array.getElem?_modify, hT0], rfl⟩, HV.out, (gNew.same coFr NV.out fun y hy => ?_).mono (by have := VB.out; omega), (Below.setCell (Below.setCell (Below.setCell (Below.setCell (Below.setCell (Below.setCell (Below.setCell gK TG.out _) TG.out _) TG.out _) TG.out _) TG.out _) TG.out _) TG.out _)⟩
            have hne : y ≠ T := fun e => HTV.out (e ▸ hy)
            rw [Below.heap_setCell _ _ _ _ hne, Below.heap_setCell _ _ _ _ hne, Below.heap_setCell _ _ _ _ hne, Below.heap_setCell _ _ _ _ hne, Below.heap_setCell _ _ _ _ hne, Below.heap_setCell _ _ _ _ hne, Below.heap_setCell _ _ _ _ hne]
        · go_simp
          refine hK _ _ (SK2.out _ (gK.alloc (.cells #[.int .i64 0, .int .i64 0, .slice none 0 0, .slice none 0 0, .slice none 0 0, .slice none 0 0, .slice none 0 0] 48))) (fun hHeld => ?_)
          clear hK K
          replace OX0 := Lib.hid (bkGr _ _ _ OX0.out ((Gw.refl _).alloc (.cells #[.int .i64 0, .int .i64 0, .slice none 0 0, .slice none 0 0, .slice none 0 0, .slice none 0 0, .slice none 0 0] 48)))
          replace OX1 := Lib.hid (coGr _ _ _ OX1.out ((Gw.refl _).alloc (.cells #[.int .i64 0, .int .i64 0, .slice none 0 0, .slice none 0 0, .slice none 0 0, .slice none 0 0, .slice none 0 0] 48)))
          have HT := Lib.hid (zAt.new wt1 #[.int .i64 0, .int .i64 0, .slice none 0 0, .slice none 0 0, .slice none 0 0, .slice none 0 0, .slice none 0 0] 48)
          have TG := Lib.hid gK.size
          replace gK := gK.alloc (.cells #[.int .i64 0, .int .i64 0, .slice none 0 0, .slice none 0 0, .slice none 0 0, .slice none 0 0, .slice none 0 0] 48)
          try simp only [Act.put, List.setIfInBounds_toArray, List.set_cons_zero, List.set_cons_succ]
          generalize wt1.alloc (.cells #[.int .i64 0, .int .i64 0, .slice none 0 0, .slice none 0 0, .slice none 0 0, .slice none 0 0, .slice none 0 0] 48) = wl2 at *
          generalize wt1.heap.size = T at *
          refine wpAnyH_ready (rs := [4]) (by kernel_rfl) (by simp) ?_
          refine AllReadyH.cons (o := { dst := some 99, op := _, type := _, pos := _, after := _, guard := _ }) rfl (fun K hK => ?_) AllReadyH.nil
          go_simp
          go_at_call 17
          refine (KI2.out x0 x1 _ gK OX0.out OX1.out HX0.out HX1.out).mono ?_
          rintro e wf2l ⟨v, rfl, hv, nv, g1⟩
          have HV := Lib.hid hv
          have NV := Lib.hid nv
          have VB := Lib.hid gK.size
          have HTV := Lib.hid (show T ∉ LK.bl v from fun e => by have := (nv.2.2 _ e).1; have := HT.out.lt; omega)
          replace HT := Lib.hid (HT.out.grow g1)
          replace gK := gK.trans g1
          clear hv nv g1
          go_wp2_with fail
          refine hK.out _ _ (SK2.out _ gK) (fun hHeld => ?_)
          clear hK K
          try simp only [Act.put, List.setIfInBounds_toArray, List.set_cons_zero, List.set_cons_succ]
          refine wpAnyH_take (i := 5) (oi := { dst := some 94, op := _, type := _, pos := _, after := _, guard := _ }) (v := .tuple #[.agg #[.int .i64 v.k, .int .i64 v.v, .slice v.da v.ds.length v.dc, .slice v.a v.ks.length v.cap, .slice none 0 0, .slice none 0 0, .slice none 0 0], .int .i64 cd]) rfl (by kernel_rfl) (by kernel_rfl) (by kernel_rfl) (fun _ _ _ h => h) (Or.inl ⟨by rfl, ?_⟩) (by assumption) ?_
          · intro w hSw; obtain ⟨p0_0, p1_0, p1_1, p1_2, p1_3⟩ := hSw; go_simp
          try simp only [Act.put, List.setIfInBounds_toArray, List.set_cons_zero, List.set_cons_succ]
          refine wpAnyH_take (i := 6) (oi := { dst := some 100, op := _, type := _, pos := _, after := _, guard := _ }) (v := .agg #[.int .i64 v.k, .int .i64 v.v, .slice v.da v.ds.length v.dc, .slice v.a v.ks.length v.cap, .slice none 0 0, .slice none 0 0, .slice none 0 0]) rfl (by kernel_rfl) (by kernel_rfl) (by kernel_rfl) (fun _ _ _ h => h) (Or.inl ⟨by rfl, ?_⟩) (by assumption) ?_
          · intro w hSw; obtain ⟨p0_0, p1_0, p1_1, p1_2, p1_3⟩ := hSw; go_simp
          try simp only [Act.put, List.setIfInBounds_toArray, List.set_cons_zero, List.set_cons_succ]
          refine wpAnyH_take (i := 7) (oi := { dst := some 101, op := _, type := _, pos := _, after := _, guard := _ }) (v := .int .i64 cd) rfl (by kernel_rfl) (by kernel_rfl) (by kernel_rfl) (fun _ _ _ h => h) (Or.inl ⟨by rfl, ?_⟩) (by assumption) ?_
          · intro w hSw; obtain ⟨p0_0, p1_0, p1_1, p1_2, p1_3⟩ := hSw; go_simp
          try simp only [Act.put, List.setIfInBounds_toArray, List.set_cons_zero, List.set_cons_succ]
          have z0 := HT.out.c 0 _ rfl
          have zf0 := HT.out.fz 0
          have z1 := HT.out.c 1 _ rfl
          have zf1 := HT.out.fz 1
          have z2 := HT.out.c 2 _ rfl
          have zf2 := HT.out.fz 2
          have z3 := HT.out.c 3 _ rfl
          have zf3 := HT.out.fz 3
          have z4 := HT.out.c 4 _ rfl
          have zf4 := HT.out.fz 4
          have z5 := HT.out.c 5 _ rfl
          have zf5 := HT.out.fz 5
          have z6 := HT.out.c 6 _ rfl
          have zf6 := HT.out.fz 6
          refine wpAnyH_ready (rs := [9]) (by kernel_rfl) (by simp) ?_
          refine AllReadyH.cons (o := { dst := none, op := _, type := _, pos := _, after := _, guard := _ }) rfl (fun K hK => ?_) AllReadyH.nil
          go_simp
          refine hK _ _ (SK2.out _ (Below.setCell (Below.setCell (Below.setCell (Below.setCell (Below.setCell (Below.setCell (Below.setCell gK TG.out _) TG.out _) TG.out _) TG.out _) TG.out _) TG.out _) TG.out _)) (fun hHeld => ?_)
          clear hK K
          try simp only [Act.put, List.setIfInBounds_toArray, List.set_cons_zero, List.set_cons_succ]
          refine wpAnyH_take (i := 10) (oi := { dst := some 16, op := _, type := _, pos := _, after := _, guard := _ }) (v := .int .i64 cd) rfl (by kernel_rfl) (by kernel_rfl) (by kernel_rfl) (fun _ _ _ h => h) (Or.inl ⟨by rfl, ?_⟩) (by assumption) ?_
          · intro w hSw; obtain ⟨p0_0, p1_0, p1_1, p1_2, p1_3⟩ := hSw; go_simp
          try simp only [Act.put, List.setIfInBounds_toArray, List.set_cons_zero, List.set_cons_succ]
          refine wpAnyH_done (by kernel_rfl) ?_ _
          go_wp2_with fail
          go_meet
          case rel =>
            have hT0 := HT.out.2
            refine ⟨T, v, rfl, rfl, TG.out, ⟨#[.int .i64 v.k, .int .i64 v.v, .slice v.da v.ds.length v.dc, .slice v.a v.ks.length v.cap, .slice none 0 0, .slice none 0 0, .slice none 0 0], 48, by simp [World.setCell, Array.getElem?_modify, hT0], rfl⟩, HV.out, (gNew.same coFr NV.out fun y hy => ?_).mono (by have := VB.out; omega), (Below.setCell (Below.setCell (Below.setCell (Below.setCell (Below.setCell (Below.setCell (Below.setCell gK TG.out _) TG.out _) TG.out _) TG.out _) TG.out _) TG.out _) TG.out _)⟩
            have hne : y ≠ T := fun e => HTV.out (e ▸ hy)
            rw [Below.heap_setCell _ _ _ _ hne, Below.heap_setCell _ _ _ _ hne, Below.heap_setCell _ _ _ _ hne, Below.heap_setCell _ _ _ _ hne, Below.heap_setCell _ _ _ _ hne, Below.heap_setCell _ _ _ _ hne, Below.heap_setCell _ _ _ _ hne]
      · go_simp
        refine hK _ _ (SK2.out _ (gK.alloc (.cells #[.int .i64 0, .int .i64 0, .slice none 0 0, .slice none 0 0, .slice none 0 0, .slice none 0 0, .slice none 0 0] 48))) (fun hHeld => ?_)
        clear hK K
        replace OX0 := Lib.hid (bkGr _ _ _ OX0.out ((Gw.refl _).alloc (.cells #[.int .i64 0, .int .i64 0, .slice none 0 0, .slice none 0 0, .slice none 0 0, .slice none 0 0, .slice none 0 0] 48)))
        have HT := Lib.hid (zAt.new wt0 #[.int .i64 0, .int .i64 0, .slice none 0 0, .slice none 0 0, .slice none 0 0, .slice none 0 0, .slice none 0 0] 48)
        have TG := Lib.hid gK.size
        replace gK := gK.alloc (.cells #[.int .i64 0, .int .i64 0, .slice none 0 0, .slice none 0 0, .slice none 0 0, .slice none 0 0, .slice none 0 0] 48)
        try simp only [Act.put, List.setIfInBounds_toArray, List.set_cons_zero, List.set_cons_succ]
        generalize wt0.alloc (.cells #[.int .i64 0, .int .i64 0, .slice none 0 0, .slice none 0 0, .slice none 0 0, .slice none 0 0, .slice none 0 0] 48) = wl1 at *
        generalize wt0.heap.size = T at *
        refine wpAnyH_ready (rs := [3]) (by kernel_rfl) (by simp) ?_
        refine AllReadyH.cons (o := { dst := some 98, op := _, type := _, pos := _, after := _, guard := _ }) rfl (fun K hK => ?_) AllReadyH.nil
        go_simp
        go_at_call 16
        refine (laws_toCore a1 _ (coGr _ _ _ P1.out gK) (by have := HZ.out; omega)).mono ?_
        rintro e wt1l ⟨x1, rfl, hx, nx, g1⟩
        have HX1 := Lib.hid hx
        have OX1 := Lib.hid nx.1
        replace OX0 := Lib.hid (bkGr _ _ _ OX0.out g1)
        replace HT := Lib.hid (HT.out.grow g1)
        replace gK := gK.trans g1
        clear hx nx g1
        go_wp2_with fail
        refine hK.out _ _ (SK2.out _ gK) (fun hHeld => ?_)
        clear hK K
        try simp only [Act.put, List.setIfInBounds_toArray, List.set_cons_zero, List.set_cons_succ]
        refine wpAnyH_ready (rs := [4]) (by kernel_rfl) (by simp) ?_
        refine AllReadyH.cons (o := { dst := some 99, op := _, type := _, pos := _, after := _, guard := _ }) rfl (fun K hK => ?_) AllReadyH.nil
        go_simp
        go_at_call 17
        refine (KI2.out x0 x1 _ gK OX0.out OX1.out HX0.out HX1.out).mono ?_
        rintro e wf2l ⟨v, rfl, hv, nv, g1⟩
        have HV := Lib.hid hv
        have NV := Lib.hid nv
        have VB := Lib.hid gK.size
        have HTV := Lib.hid (show T ∉ LK.bl v from fun e => by have := (nv.2.2 _ e).1; have := HT.out.lt; omega)
        replace HT := Lib.hid (HT.out.grow g1)
        replace gK := gK.trans g1
        clear hv nv g1
        go_wp2_with fail
        refine hK.out _ _ (SK2.out _ gK) (fun hHeld => ?_)
        clear hK K
        try simp only [Act.put, List.setIfInBounds_toArray, List.set_cons_zero, List.set_cons_succ]
        refine wpAnyH_take (i := 5) (oi := { dst := some 94, op := _, type := _, pos := _, after := _, guard := _ }) (v := .tuple #[.agg #[.int .i64 v.k, .int .i64 v.v, .slice v.da v.ds.length v.dc, .slice v.a v.ks.length v.cap, .slice none 0 0, .slice none 0 0, .slice none 0 0], .int .i64 cd]) rfl (by kernel_rfl) (by kernel_rfl) (by kernel_rfl) (fun _ _ _ h => h) (Or.inl ⟨by rfl, ?_⟩) (by assumption) ?_
        · intro w hSw; obtain ⟨p0_0, p1_0, p1_1, p1_2, p1_3⟩ := hSw; go_simp
        try simp only [Act.put, List.setIfInBounds_toArray, List.set_cons_zero, List.set_cons_succ]
        refine wpAnyH_take (i := 6) (oi := { dst := some 100, op := _, type := _, pos := _, after := _, guard := _ }) (v := .agg #[.int .i64 v.k, .int .i64 v.v, .slice v.da v.ds.length v.dc, .slice v.a v.ks.length v.cap, .slice none 0 0, .slice none 0 0, .slice none 0 0]) rfl (by kernel_rfl) (by kernel_rfl) (by kernel_rfl) (fun _ _ _ h => h) (Or.inl ⟨by rfl, ?_⟩) (by assumption) ?_
        · intro w hSw; obtain ⟨p0_0, p1_0, p1_1, p1_2, p1_3⟩ := hSw; go_simp
        try simp only [Act.put, List.setIfInBounds_toArray, List.set_cons_zero, List.set_cons_succ]
        refine wpAnyH_take (i := 7) (oi := { dst := some 101, op := _, type := _, pos := _, after := _, guard := _ }) (v := .int .i64 cd) rfl (by kernel_rfl) (by kernel_rfl) (by kernel_rfl) (fun _ _ _ h => h) (Or.inl ⟨by rfl, ?_⟩) (by assumption) ?_
        · intro w hSw; obtain ⟨p0_0, p1_0, p1_1, p1_2, p1_3⟩ := hSw; go_simp
        try simp only [Act.put, List.setIfInBounds_toArray, List.set_cons_zero, List.set_cons_succ]
        have z0 := HT.out.c 0 _ rfl
        have zf0 := HT.out.fz 0
        have z1 := HT.out.c 1 _ rfl
        have zf1 := HT.out.fz 1
        have z2 := HT.out.c 2 _ rfl
        have zf2 := HT.out.fz 2
        have z3 := HT.out.c 3 _ rfl
        have zf3 := HT.out.fz 3
        have z4 := HT.out.c 4 _ rfl
        have zf4 := HT.out.fz 4
        have z5 := HT.out.c 5 _ rfl
        have zf5 := HT.out.fz 5
        have z6 := HT.out.c 6 _ rfl
        have zf6 := HT.out.fz 6
        refine wpAnyH_ready (rs := [9]) (by kernel_rfl) (by simp) ?_
        refine AllReadyH.cons (o := { dst := none, op := _, type := _, pos := _, after := _, guard := _ }) rfl (fun K hK => ?_) AllReadyH.nil
        go_simp
        refine hK _ _ (SK2.out _ (Below.setCell (Below.setCell (Below.setCell (Below.setCell (Below.setCell (Below.setCell (Below.setCell gK TG.out _) TG.out _) TG.out _) TG.out _) TG.out _) TG.out _) TG.out _)) (fun hHeld => ?_)
        clear hK K
        try simp only [Act.put, List.setIfInBounds_toArray, List.set_cons_zero, List.set_cons_succ]
        refine wpAnyH_take (i := 10) (oi := { dst := some 16, op := _, type := _, pos := _, after := _, guard := _ }) (v := .int .i64 cd) rfl (by kernel_rfl) (by kernel_rfl) (by kernel_rfl) (fun _ _ _ h => h) (Or.inl ⟨by rfl, ?_⟩) (by assumption) ?_
        · intro w hSw; obtain ⟨p0_0, p1_0, p1_1, p1_2, p1_3⟩ := hSw; go_simp
        try simp only [Act.put, List.setIfInBounds_toArray, List.set_cons_zero, List.set_cons_succ]
        refine wpAnyH_done (by kernel_rfl) ?_ _
        go_wp2_with fail
        go_meet
        case rel =>
          have hT0 := HT.out.2
          refine ⟨T, v, rfl, rfl, TG.out, ⟨#[.int .i64 v.k, .int .i64 v.v, .slice v.da v.ds.length v.dc, .slice v.a v.ks.length v.cap, .slice none 0 0, .slice none 0 0, .slice none 0 0], 48, by simp [World.setCell, Array.getElem?_modify, hT0], rfl⟩, HV.out, (gNew.same coFr NV.out fun y hy => ?_).mono (by have := VB.out; omega), (Below.setCell (Below.setCell (Below.setCell (Below.setCell (Below.setCell (Below.setCell (Below.setCell gK TG.out _) TG.out _) TG.out _) TG.out _) TG.out _) TG.out _) TG.out _)⟩
          have hne : y ≠ T := fun e => HTV.out (e ▸ hy)
          rw [Below.heap_setCell _ _ _ _ hne, Below.heap_setCell _ _ _ _ hne, Below.heap_setCell _ _ _ _ hne, Below.heap_setCell _ _ _ _ hne, Below.heap_setCell _ _ _ _ hne, Below.heap_setCell _ _ _ _ hne, Below.heap_setCell _ _ _ _ hne]
    · go_simp
      refine hK _ _ (SK2.out _ (gK.alloc (.cells #[.int .i64 0, .int .i64 0, .slice none 0 0, .slice none 0 0, .slice none 0 0, .slice none 0 0, .slice none 0 0] 48))) (fun hHeld => ?_)
      clear hK K
      have HT := Lib.hid (zAt.new wD #[.int .i64 0, .int .i64 0, .slice none 0 0, .slice none 0 0, .slice none 0 0, .slice none 0 0, .slice none 0 0] 48)
      have TG := Lib.hid gK.size
      replace gK := gK.alloc (.cells #[.int .i64 0, .int .i64 0, .slice none 0 0, .slice none 0 0, .slice none 0 0, .slice none 0 0, .slice none 0 0] 48)
      try simp only [Act.put, List.setIfInBounds_toArray, List.set_cons_zero, List.set_cons_succ]
      generalize wD.alloc (.cells #[.int .i64 0, .int .i64 0, .slice none 0 0, .slice none 0 0, .slice none 0 0, .slice none 0 0, .slice none 0 0] 48) = wl0 at *
      generalize wD.heap.size = T at *
      refine wpAnyH_ready (rs := [1]) (by kernel_rfl) (by simp) ?_
      refine AllReadyH.cons (o := { dst := some 96, op := _, type := _, pos := _, after := _, guard := _ }) rfl (fun K hK => ?_) AllReadyH.nil
      go_simp
      go_at_call 9
      refine (ly_toBook a0 _ (bkGr _ _ _ P0.out gK) (by have := HZ.out; omega)).mono ?_
      rintro e wt0l ⟨x0, rfl, hx, nx, g1⟩
      have HX0 := Lib.hid hx
      have OX0 := Lib.hid nx.1
      replace HT := Lib.hid (HT.out.grow g1)
      replace gK := gK.trans g1
      clear hx nx g1
      go_wp2_with fail
      refine hK.out _ _ (SK2.out _ gK) (fun hHeld => ?_)
      clear hK K
      try simp only [Act.put, List.setIfInBounds_toArray, List.set_cons_zero, List.set_cons_succ]
      refine wpAnyH_ready (rs := [3]) (by kernel_rfl) (by simp) ?_
      refine AllReadyH.cons (o := { dst := some 98, op := _, type := _, pos := _, after := _, guard := _ }) rfl (fun K hK => ?_) AllReadyH.nil
      go_simp
      go_at_call 16
      refine (laws_toCore a1 _ (coGr _ _ _ P1.out gK) (by have := HZ.out; omega)).mono ?_
      rintro e wt1l ⟨x1, rfl, hx, nx, g1⟩
      have HX1 := Lib.hid hx
      have OX1 := Lib.hid nx.1
      replace OX0 := Lib.hid (bkGr _ _ _ OX0.out g1)
      replace HT := Lib.hid (HT.out.grow g1)
      replace gK := gK.trans g1
      clear hx nx g1
      go_wp2_with fail
      refine hK.out _ _ (SK2.out _ gK) (fun hHeld => ?_)
      clear hK K
      try simp only [Act.put, List.setIfInBounds_toArray, List.set_cons_zero, List.set_cons_succ]
      refine wpAnyH_ready (rs := [4]) (by kernel_rfl) (by simp) ?_
      refine AllReadyH.cons (o := { dst := some 99, op := _, type := _, pos := _, after := _, guard := _ }) rfl (fun K hK => ?_) AllReadyH.nil
      go_simp
      go_at_call 17
      refine (KI2.out x0 x1 _ gK OX0.out OX1.out HX0.out HX1.out).mono ?_
      rintro e wf2l ⟨v, rfl, hv, nv, g1⟩
      have HV := Lib.hid hv
      have NV := Lib.hid nv
      have VB := Lib.hid gK.size
      have HTV := Lib.hid (show T ∉ LK.bl v from fun e => by have := (nv.2.2 _ e).1; have := HT.out.lt; omega)
      replace HT := Lib.hid (HT.out.grow g1)
      replace gK := gK.trans g1
      clear hv nv g1
      go_wp2_with fail
      refine hK.out _ _ (SK2.out _ gK) (fun hHeld => ?_)
      clear hK K
      try simp only [Act.put, List.setIfInBounds_toArray, List.set_cons_zero, List.set_cons_succ]
      refine wpAnyH_take (i := 5) (oi := { dst := some 94, op := _, type := _, pos := _, after := _, guard := _ }) (v := .tuple #[.agg #[.int .i64 v.k, .int .i64 v.v, .slice v.da v.ds.length v.dc, .slice v.a v.ks.length v.cap, .slice none 0 0, .slice none 0 0, .slice none 0 0], .int .i64 cd]) rfl (by kernel_rfl) (by kernel_rfl) (by kernel_rfl) (fun _ _ _ h => h) (Or.inl ⟨by rfl, ?_⟩) (by assumption) ?_
      · intro w hSw; obtain ⟨p0_0, p1_0, p1_1, p1_2, p1_3⟩ := hSw; go_simp
      try simp only [Act.put, List.setIfInBounds_toArray, List.set_cons_zero, List.set_cons_succ]
      refine wpAnyH_take (i := 6) (oi := { dst := some 100, op := _, type := _, pos := _, after := _, guard := _ }) (v := .agg #[.int .i64 v.k, .int .i64 v.v, .slice v.da v.ds.length v.dc, .slice v.a v.ks.length v.cap, .slice none 0 0, .slice none 0 0, .slice none 0 0]) rfl (by kernel_rfl) (by kernel_rfl) (by kernel_rfl) (fun _ _ _ h => h) (Or.inl ⟨by rfl, ?_⟩) (by assumption) ?_
      · intro w hSw; obtain ⟨p0_0, p1_0, p1_1, p1_2, p1_3⟩ := hSw; go_simp
      try simp only [Act.put, List.setIfInBounds_toArray, List.set_cons_zero, List.set_cons_succ]
      refine wpAnyH_take (i := 7) (oi := { dst := some 101, op := _, type := _, pos := _, after := _, guard := _ }) (v := .int .i64 cd) rfl (by kernel_rfl) (by kernel_rfl) (by kernel_rfl) (fun _ _ _ h => h) (Or.inl ⟨by rfl, ?_⟩) (by assumption) ?_
      · intro w hSw; obtain ⟨p0_0, p1_0, p1_1, p1_2, p1_3⟩ := hSw; go_simp
      try simp only [Act.put, List.setIfInBounds_toArray, List.set_cons_zero, List.set_cons_succ]
      have z0 := HT.out.c 0 _ rfl
      have zf0 := HT.out.fz 0
      have z1 := HT.out.c 1 _ rfl
      have zf1 := HT.out.fz 1
      have z2 := HT.out.c 2 _ rfl
      have zf2 := HT.out.fz 2
      have z3 := HT.out.c 3 _ rfl
      have zf3 := HT.out.fz 3
      have z4 := HT.out.c 4 _ rfl
      have zf4 := HT.out.fz 4
      have z5 := HT.out.c 5 _ rfl
      have zf5 := HT.out.fz 5
      have z6 := HT.out.c 6 _ rfl
      have zf6 := HT.out.fz 6
      refine wpAnyH_ready (rs := [9]) (by kernel_rfl) (by simp) ?_
      refine AllReadyH.cons (o := { dst := none, op := _, type := _, pos := _, after := _, guard := _ }) rfl (fun K hK => ?_) AllReadyH.nil
      go_simp
      refine hK _ _ (SK2.out _ (Below.setCell (Below.setCell (Below.setCell (Below.setCell (Below.setCell (Below.setCell (Below.setCell gK TG.out _) TG.out _) TG.out _) TG.out _) TG.out _) TG.out _) TG.out _)) (fun hHeld => ?_)
      clear hK K
      try simp only [Act.put, List.setIfInBounds_toArray, List.set_cons_zero, List.set_cons_succ]
      refine wpAnyH_take (i := 10) (oi := { dst := some 16, op := _, type := _, pos := _, after := _, guard := _ }) (v := .int .i64 cd) rfl (by kernel_rfl) (by kernel_rfl) (by kernel_rfl) (fun _ _ _ h => h) (Or.inl ⟨by rfl, ?_⟩) (by assumption) ?_
      · intro w hSw; obtain ⟨p0_0, p1_0, p1_1, p1_2, p1_3⟩ := hSw; go_simp
      try simp only [Act.put, List.setIfInBounds_toArray, List.set_cons_zero, List.set_cons_succ]
      refine wpAnyH_done (by kernel_rfl) ?_ _
      go_wp2_with fail
      go_meet
      case rel =>
        have hT0 := HT.out.2
        refine ⟨T, v, rfl, rfl, TG.out, ⟨#[.int .i64 v.k, .int .i64 v.v, .slice v.da v.ds.length v.dc, .slice v.a v.ks.length v.cap, .slice none 0 0, .slice none 0 0, .slice none 0 0], 48, by simp [World.setCell, Array.getElem?_modify, hT0], rfl⟩, HV.out, (gNew.same coFr NV.out fun y hy => ?_).mono (by have := VB.out; omega), (Below.setCell (Below.setCell (Below.setCell (Below.setCell (Below.setCell (Below.setCell (Below.setCell gK TG.out _) TG.out _) TG.out _) TG.out _) TG.out _) TG.out _) TG.out _)⟩
        have hne : y ≠ T := fun e => HTV.out (e ▸ hy)
        rw [Below.heap_setCell _ _ _ _ hne, Below.heap_setCell _ _ _ _ hne, Below.heap_setCell _ _ _ _ hne, Below.heap_setCell _ _ _ _ hne, Below.heap_setCell _ _ _ _ hne, Below.heap_setCell _ _ _ _ hne, Below.heap_setCell _ _ _ _ hne]
  obtain ⟨T2, h, rfl, rfl, hT2, B9, hh, nh, g14⟩ := hcut
  have p0 := B9.c 0 _ rfl
  have p1 := B9.c 1 _ rfl
  have p2 := B9.c 2 _ rfl
  have p3 := B9.c 3 _ rfl
  have p4 := B9.c 4 _ rfl
  have p5 := B9.c 5 _ rfl
  have p6 := B9.c 6 _ rfl
  have BT2 := BT.out.grow g14
  have q0 := BT2.c 0 _ rfl
  have q1 := BT2.c 1 _ rfl
  have q2 := BT2.c 2 _ rfl
  have q3 := BT2.c 3 _ rfl
  have q4 := BT2.c 4 _ rfl
  have q5 := BT2.c 5 _ rfl
  have q6 := BT2.c 6 _ rfl
  go_wp2_with fail
  refine (eq_ndof h v _ nh.1 (coGr _ _ _ V.out.1 g14) (hh.trans HVV.out.symm)).mono ?_
  rintro e w15 ⟨rfl, g15⟩
  have BU2 := BU.out.grow (g14.trans g15)
  have gE := GWC.out.trans (gC.out.trans (g14.trans g15))
  have HK3 := Lib.hid (HK.out w15 (g14.trans g15))
  clear p0 p1 p2 p3 p4 p5 p6 q0 q1 q2 q3 q4 q5 q6 B9 BT2
  have p0 := BU2.c 0 _ rfl
  have p1 := BU2.c 1 _ rfl
  have p2 := BU2.c 2 _ rfl
  have p3 := BU2.c 3 _ rfl
  have p4 := BU2.c 4 _ rfl
  have p5 := BU2.c 5 _ rfl
  have p6 := BU2.c 6 _ rfl
  have hqm : ¬ ((qm : Nat) : Int) < 0 := by omega
  go_wp2_with fail
  refine HK3.out.mono ?_
  rintro e w16 ⟨rfl, g16⟩
  clear p0 p1 p2 p3 p4 p5 p6
  go_wp2_with fail
  go_ret
  exact ⟨rfl, gE.trans g16⟩

set_option maxRecDepth 100000 in
theorem lifted (os : Os) (started : os.Started) (H : Type) (enc : TypeId × Value → H) :
    ReturnsInHanded {} Tryd.checked os 4 .any (fun w args => (Rows.fnExactStartNeedSpec.pre enc Tryd.prog Tryd.f4 Rows.fnExactStartNeedRow.domain false w args ∧ laidMetH Tryd.prog Rows.fnExactStartNeedRow.laid w) ∧ sizedMet enc Tryd.prog Tryd.f4 (OpenSpec.ofChange Rows.fnExactStartNeedSpec) false w args)
      (Rows.fnExactStartNeedSpec.post enc Tryd.prog Tryd.f4 false true false false) := by
  refine returnsInHanded_of_change_and (C := Tryd.checked) (X := fun w _ => laidMetH Tryd.prog Rows.fnExactStartNeedRow.laid w) (fun _ _ _ hh h => h.of_heap hh) own started (by kernel_rfl) Tryd.func4
    (ChangeSpec.witness_shaped (enc := enc) (C := Tryd.checked) (os := os) (X := fun w _ => laidMetH Tryd.prog Rows.fnExactStartNeedRow.laid w) false (World.laidAll Tryd.prog os Rows.fnExactStartNeedRow.laid) #[.agg #[.slice none 0 0], .agg #[.int .i64 0, .int .i64 0, .slice none 0 0, .slice none 0 0]] 8 (World.laidAll_os _ _ _)
      (World.shaped_of_ZipB (by kernel_rfl) (by kernel_rfl)) (by kernel_rfl) (by kernel_rfl) (by kernel_rfl)
      (by rw [MakeChecks.laidMetH_plain _ _ _ (by kernel_rfl)]; exact laidMet_laidAll _ (by kernel_rfl) (by kernel_rfl))) ?_
  intro W base args ds gs before hval0 hW _ _ hT _
  have hval : ∀ (j : Nat) t v, Tryd.f4.params[j]? = some t → args[j]? = some v → Value.okWide Tryd.prog W .any base t v := hval0
  have hW' := hW
  obtain ⟨p, q, hA0, hV0, rfl, hfz, hnd⟩ := hW
  have hA : DataW.TrodAll enc Tryd.prog W 0 (fun _ => true) true Tryd.f4.params.toList args.toList ds p := hA0
  rw [Tryd.params4] at hA hval
  obtain ⟨v0, vs0, d0, ds0, p0, q0, hargs, rfl, rfl, h0, r0⟩ := trodAll_cons hA
  obtain ⟨v1, vs1, d1, ds1, p1, q1, rfl, rfl, rfl, h1, r1⟩ := trodAll_cons r0
  obtain ⟨rfl, rfl, rfl⟩ := trodAll_nil r1
  obtain rfl : args = #[v0, v1] := by cases args; simp_all
  obtain ⟨a0, rfl, w0⟩ := open_book (hval 0 24 v0 rfl rfl) h0
  obtain ⟨a1, rfl, w1⟩ := open_core (hval 1 27 v1 rfl rfl) h1
  obtain ⟨g0, rfl⟩ : ∃ g0, gs = [g0] := by
    obtain ⟨g, t, cs, fuel, d, p', rfl, _⟩ := trodVars_one hV0
    exact ⟨d, rfl⟩
  refine (walk W a0 w0 a1 w1 hT).mono fun e W' ⟨he, hg⟩ => ?_
  subst he
  exact ⟨_, rfl, post_law laidOut (by kernel_rfl) (by kernel_rfl) rfl Tryd.underlying4 hW' hg rfl⟩

theorem holds : Rows.FnExactStartNeedSaid :=
  OpenClaim.holds_of_wide 4 Tryd.f4 rfl rfl rfl rfl rfl rfl rfl ⟨rfl, rfl, rfl, rfl, rfl⟩ rfl rfl rfl rfl rfl (by kernel_rfl) Tryd.func4 (by kernel_rfl)
    (of_decide_eq_true (by kernel_rfl)) (by unfold Func.isWrapper; first | (rw [if_pos (by decide +kernel)]; kernel_rfl) | (rw [if_neg (by decide +kernel)]; exact ⟨rfl, rfl⟩))
    (fun os started H enc _ => lifted os started H enc)

/-- The given statement: the tied card. -/
theorem proved : Rows.FnExactStartNeedCardSaid :=
  Claim7.holds_tied_plain_at .later [] [.data] true Rows.fnExactStartNeedCard.stood.harness Rows.fnExactStartNeedCard.stood.looks holds (fun _ h => by cases h) (by kernel_rfl) (fun _ h => by cases h) fnExactStartNeed_row_tie rfl ⟨rfl, rfl⟩ (by kernel_rfl) rfl
    (fun f fn hf hfn => by
      obtain rfl : f = 4 := Option.some.inj ((show Tryd.prog.funcNamed Rows.fnExactStartNeedRow.func = some 4 by kernel_rfl).symm.trans hf) |>.symm
      obtain rfl : fn = Tryd.f4 := (Option.some.inj (Tryd.func4.symm.trans hfn)).symm
      exact ⟨by kernel_rfl, fun j t ht => by
        rw [Tryd.params4] at ht
        have hm : t ∈ [24, 27] := by simpa using Array.mem_of_getElem? ht
        have hall : ([24, 27].all fun u => !Tryd.prog.wantsStandIn u) = true := by kernel_rfl
        exact (show Tryd.prog.wantsStandIn t = false by simpa using List.all_eq_true.1 hall t hm)⟩)
    (by kernel_rfl)
#print axioms proved
end Go.Proofs.YtkpbiifikkbaeaaDoor.fnExactStartNeed
