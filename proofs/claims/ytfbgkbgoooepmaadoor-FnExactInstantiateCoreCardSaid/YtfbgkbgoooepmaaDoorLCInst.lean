/-
  Proved: for all core terms the law FnExactInstantiateCore returns true and leaves its arguments and the program's table coreForms as they were. Condition: coreForms reads as the program's text lays it, which the card ties to the text.
-/
import Derived.Test.YtfbgkbgoooepmaaDoorCoIk
import Derived.Test.YtfbgkbgoooepmaaDoorCoMk
import Derived.Test.YtfbgkbgoooepmaaDoorCoMi
import Derived.Test.YtfbgkbgoooepmaaDoorCoLw
import Derived.Deep.RegionHeld3
import Derived.Deep.Cut
import Derived.Deep.CutRange
import Derived.Test.YtfbgkbgoooepmaaDoorCards
import Derived.Test.YtfbgkbgoooepmaaDoorTie
import Derived.LaidMore
import Derived.Lay
import Derived.SevenTiedAt
import Derived.Stop.Joined
namespace Go.Proofs.YtfbgkbgoooepmaaDoor.fnExactInstantiateCore
open Go.ChangeShapes Go.WideShapes Go.ChangeAt Go.RowKit Con
set_option linter.unusedVariables false
theorem own : ownKnob Tryd.prog.godebug = none := by kernel_rfl
theorem laidOut : laidOutB Tryd.prog = true := by kernel_rfl

set_option maxRecDepth 100000 in
set_option maxHeartbeats 4000000 in
theorem walk (w : World) (a0 : LK) (w0 : a0.Ok w) (a1 : LK) (w1 : a1.Ok w) (hT : laidMetH Tryd.prog Rows.fnExactInstantiateCoreRow.laid w) :
    Calls Tryd.prog 11 #[a0.val, a1.val] w fun e w' => e = .returned (.bool true) ∧ Gw w w' := by
  have hTb : KTbl w := ktbl_of (by have h2 : laidMetH Tryd.prog Rows.fnExactInstantiateCoreRow.laid w := hT; rw [MakeChecks.laidMetH_plain _ _ _ (by kernel_rfl)] at h2; exact h2)
  have TB := Lib.hid hTb
  have gW : Gw w ((w.alloc (.cells #[.int .i64 a0.k, .int .i64 a0.v, .slice a0.da a0.ds.length a0.dc, .slice a0.a a0.ks.length a0.cap] 25)).alloc (.cells #[.int .i64 a1.k, .int .i64 a1.v, .slice a1.da a1.ds.length a1.dc, .slice a1.a a1.ks.length a1.cap] 25)) := ((Gw.refl w).alloc _).alloc _
  have BA := Lib.hid ((BoxK.new w a0 25).grow ((Gw.refl _).alloc (.cells #[.int .i64 a1.k, .int .i64 a1.v, .slice a1.da a1.ds.length a1.dc, .slice a1.a a1.ks.length a1.cap] 25)))
  have hBB := BoxK.new (w.alloc (.cells #[.int .i64 a0.k, .int .i64 a0.v, .slice a0.da a0.ds.length a0.dc, .slice a0.a a0.ks.length a0.cap] 25)) a1 25
  rw [World.size_alloc] at hBB
  have BB := Lib.hid hBB
  have OA := Lib.hid (w0.grow gW)
  have OB := Lib.hid (w1.grow gW)
  clear hTb hT hBB
  go_enter Tryd.func11, Tryd.ntmps11
  go_upto_region 2 with (fail)
  generalize ((w.alloc (.cells #[.int .i64 a0.k, .int .i64 a0.v, .slice a0.da a0.ds.length a0.dc, .slice a0.a a0.ks.length a0.cap] 25)).alloc (.cells #[.int .i64 a1.k, .int .i64 a1.v, .slice a1.da a1.ds.length a1.dc, .slice a1.a a1.ks.length a1.cap] 25)) = wA at *
  obtain ⟨p0, p1, p2, p3⟩ := BA.out.c
  go_wp2_with fail
  refine (laws_szCore a0 _ _ OA.out (by omega) (by omega)).mono ?_
  rintro e wB ⟨he, gB⟩
  subst he
  replace BA := Lib.hid (BA.out.grow gB)
  replace BB := Lib.hid (BB.out.grow gB)
  replace OA := Lib.hid (OA.out.grow gB)
  replace OB := Lib.hid (OB.out.grow gB)
  replace gW := gW.trans gB
  clear p0 p1 p2 p3 gB
  by_cases hsA : 1048576 < a0.sz
  · have HS : szR 1048576 a0.sz = -1 := if_neg (by omega)
    rw [HS]
    go_wp2_with fail
    go_ret
    exact ⟨rfl, gW⟩
  have HS : szR 1048576 a0.sz = 1048576 - a0.sz := if_pos (by omega)
  rw [HS]
  have hp : ¬ ((1048576 : Int) - a0.sz < 0) := by omega
  clear HS
  obtain ⟨q0, q1, q2, q3⟩ := BB.out.c
  go_wp2_with fail
  refine (laws_szCore a1 _ _ OB.out (by omega) (by omega)).mono ?_
  rintro e wC ⟨he, gB⟩
  subst he
  replace BA := Lib.hid (BA.out.grow gB)
  replace BB := Lib.hid (BB.out.grow gB)
  replace OA := Lib.hid (OA.out.grow gB)
  replace OB := Lib.hid (OB.out.grow gB)
  replace gW := gW.trans gB
  clear q0 q1 q2 q3 gB hp
  by_cases hsB : (1048576 : Int) - a0.sz < a1.sz
  · have HS : szR (1048576 - a0.sz) a1.sz = -1 := if_neg (by omega)
    rw [HS]
    go_wp2_with fail
    go_ret
    exact ⟨rfl, gW⟩
  have HS : szR (1048576 - a0.sz) a1.sz = 1048576 - a0.sz - a1.sz := if_pos (by omega)
  rw [HS]
  have hp : ¬ ((1048576 : Int) - a0.sz - a1.sz < 0) := by omega
  clear HS
  have hzA : a0.sz ≤ 1048576 := by omega
  have hzB : a1.sz ≤ 1048576 := by omega
  go_upto_region 8 with (fail)
  clear hp hsA hsB
  obtain ⟨cd, hcd⟩ : ∃ c, c = inCd a0.co a1.co := ⟨_, rfl⟩
  obtain ⟨rs, hrs⟩ : ∃ r, r = (if inCd a0.co a1.co = 0 then a0.co.pu a1.co 0 else zeC) := ⟨_, rfl⟩
  have MC := Lib.hid (show rs.mc ≤ 7999999 by rw [hrs]; exact in_mc _ _)
  have KS := Lib.hid (show ∀ (x y : LK) (W : World), Gw wC W → x.Ok W → y.Ok W → x.co = a0.co → y.co = a1.co → Calls Tryd.prog 39 #[x.val, y.val] W fun e w' => ∃ v : LK, e = .returned (.tuple #[v.val, .int .i64 cd]) ∧ v.co = rs ∧ v.New W.heap.size w' ∧ Gw W w' from fun x y W _ hx hy ex ey => by
    have := spec_instCo x y W hx hy
    rw [ex, ey] at this
    rw [hcd, hrs]
    exact this)
  have KI := Lib.hid (show ∀ (x y : LK) (W : World), Gw wC W → x.Ok W → y.Ok W → x.co = a0.co → y.co = a1.co → Calls Tryd.prog 40 #[x.val, y.val] W fun e w' => ∃ v : LK, e = .returned (.tuple #[v.val, .int .i64 cd]) ∧ v.co = rs ∧ v.New W.heap.size w' ∧ Gw W w' from fun x y W g hx hy ex ey => by
    have := impl_instCo x y W hx hy (TB.out.grow (gW.trans g))
    rw [ex, ey] at this
    rw [hcd, hrs]
    exact this)
  clear hcd hrs
  have SK := Lib.hid (show ∀ W, Gw wC W → (fun W => W.cell? ⟨w.heap.size, 0, none⟩ = some (.int .i64 a0.k) ∧ W.cell? ⟨w.heap.size, 1, none⟩ = some (.int .i64 a0.v) ∧ W.cell? ⟨w.heap.size, 2, none⟩ = some (.slice a0.da a0.ds.length a0.dc) ∧ W.cell? ⟨w.heap.size, 3, none⟩ = some (.slice a0.a a0.ks.length a0.cap) ∧ W.cell? ⟨w.heap.size + 1, 0, none⟩ = some (.int .i64 a1.k) ∧ W.cell? ⟨w.heap.size + 1, 1, none⟩ = some (.int .i64 a1.v) ∧ W.cell? ⟨w.heap.size + 1, 2, none⟩ = some (.slice a1.da a1.ds.length a1.dc) ∧ W.cell? ⟨w.heap.size + 1, 3, none⟩ = some (.slice a1.a a1.ks.length a1.cap)) W from fun W g => ⟨(BA.out.grow g).c.1, (BA.out.grow g).c.2.1, (BA.out.grow g).c.2.2.1, (BA.out.grow g).c.2.2.2, (BB.out.grow g).c.1, (BB.out.grow g).c.2.1, (BB.out.grow g).c.2.2.1, (BB.out.grow g).c.2.2.2⟩)
  go_cut [6, 7] from 6 to 34 (fun t6 t7 wx => ∃ (T : Nat) (v : LK), t6 = .pointer (some ⟨T, 0, none⟩) ∧ t7 = .int .i64 cd ∧ wC.heap.size ≤ T ∧ BoxK wx T v ∧ v.co = rs ∧ v.New wC.heap.size wx ∧ Gw wC wx)
  case first =>
    refine wp_region_held_drew (S := fun W => W.cell? ⟨w.heap.size, 0, none⟩ = some (.int .i64 a0.k) ∧ W.cell? ⟨w.heap.size, 1, none⟩ = some (.int .i64 a0.v) ∧ W.cell? ⟨w.heap.size, 2, none⟩ = some (.slice a0.da a0.ds.length a0.dc) ∧ W.cell? ⟨w.heap.size, 3, none⟩ = some (.slice a0.a a0.ks.length a0.cap) ∧ W.cell? ⟨w.heap.size + 1, 0, none⟩ = some (.int .i64 a1.k) ∧ W.cell? ⟨w.heap.size + 1, 1, none⟩ = some (.int .i64 a1.v) ∧ W.cell? ⟨w.heap.size + 1, 2, none⟩ = some (.slice a1.da a1.ds.length a1.dc) ∧ W.cell? ⟨w.heap.size + 1, 3, none⟩ = some (.slice a1.a a1.ks.length a1.cap)) (by kernel_rfl) ?_ (fun hHeld => ?_)
    · exact SK.out _ (Gw.refl _).drew
    have gK : Gw wC wC.drew := (Gw.refl wC).drew
    generalize wC.drew = wD at *
    refine wpAnyH_take (i := 0) (oi := { dst := some 28, op := _, type := _, pos := _, after := _, guard := _ }) (v := a0.val) rfl (by kernel_rfl) (by kernel_rfl) (by kernel_rfl) (fun _ _ _ h => h) (Or.inl ⟨by rfl, ?_⟩) (by assumption) ?_
    · intro w hSw; obtain ⟨p0, p1, p2, p3, q0, q1, q2, q3⟩ := hSw; go_simp
    try simp only [Act.put, List.setIfInBounds_toArray, List.set_cons_zero, List.set_cons_succ]
    refine wpAnyH_take (i := 2) (oi := { dst := some 30, op := _, type := _, pos := _, after := _, guard := _ }) (v := a1.val) rfl (by kernel_rfl) (by kernel_rfl) (by kernel_rfl) (fun _ _ _ h => h) (Or.inl ⟨by rfl, ?_⟩) (by assumption) ?_
    · intro w hSw; obtain ⟨p0, p1, p2, p3, q0, q1, q2, q3⟩ := hSw; go_simp
    try simp only [Act.put, List.setIfInBounds_toArray, List.set_cons_zero, List.set_cons_succ]
    refine wpAnyH_ready (rs := [1, 8]) (by kernel_rfl) (by simp) ?_
    refine AllReadyH.cons (o := { dst := some 29, op := _, type := _, pos := _, after := _, guard := _ }) rfl (fun K hK => ?_) (AllReadyH.cons (o := { dst := some 6, op := _, type := _, pos := _, after := _, guard := _ }) rfl (fun K hK => ?_) AllReadyH.nil)
    · go_simp
      go_at_call 17
      refine (laws_toCore a0 _ (OA.out.grow gK) hzA).mono ?_
      rintro e wa ⟨x, rfl, hx, nx, g1⟩
      have HX := Lib.hid hx
      have OX := Lib.hid nx.1
      replace gK := gK.trans g1
      clear hx nx g1
      go_wp2_with fail
      refine hK.out _ _ (SK.out _ gK) (fun hHeld => ?_)
      clear hK K
      try simp only [Act.put, List.setIfInBounds_toArray, List.set_cons_zero, List.set_cons_succ]
      refine wpAnyH_ready (rs := [3, 8]) (by kernel_rfl) (by simp) ?_
      refine AllReadyH.cons (o := { dst := some 31, op := _, type := _, pos := _, after := _, guard := _ }) rfl (fun K hK => ?_) (AllReadyH.cons (o := { dst := some 6, op := _, type := _, pos := _, after := _, guard := _ }) rfl (fun K hK => ?_) AllReadyH.nil)
      · go_simp
        go_at_call 17
        refine (laws_toCore a1 _ (OB.out.grow gK) hzB).mono ?_
        rintro e wab ⟨y, rfl, hy, ny, g1⟩
        have HY := Lib.hid hy
        have OY := Lib.hid ny.1
        replace OX := Lib.hid (OX.out.grow g1)
        replace gK := gK.trans g1
        clear hy ny g1
        go_wp2_with fail
        refine hK.out _ _ (SK.out _ gK) (fun hHeld => ?_)
        clear hK K
        try simp only [Act.put, List.setIfInBounds_toArray, List.set_cons_zero, List.set_cons_succ]
        refine wpAnyH_ready (rs := [4, 8]) (by kernel_rfl) (by simp) ?_
        refine AllReadyH.cons (o := { dst := some 32, op := _, type := _, pos := _, after := _, guard := _ }) rfl (fun K hK => ?_) (AllReadyH.cons (o := { dst := some 6, op := _, type := _, pos := _, after := _, guard := _ }) rfl (fun K hK => ?_) AllReadyH.nil)
        · go_simp
          go_at_call 39
          refine (KS.out x y _ gK OX.out OY.out HX.out HY.out).mono ?_
          rintro e wabf ⟨v, rfl, hv, nv, g1⟩
          have HV := Lib.hid hv
          have NV := Lib.hid nv
          have VB := Lib.hid gK.size
          replace gK := gK.trans g1
          clear hv nv g1
          go_wp2_with fail
          refine hK.out _ _ (SK.out _ gK) (fun hHeld => ?_)
          clear hK K
          try simp only [Act.put, List.setIfInBounds_toArray, List.set_cons_zero, List.set_cons_succ]
          refine wpAnyH_take (i := 5) (oi := { dst := some 27, op := _, type := _, pos := _, after := _, guard := _ }) (v := .tuple #[v.val, .int .i64 cd]) rfl (by kernel_rfl) (by kernel_rfl) (by kernel_rfl) (fun _ _ _ h => h) (Or.inl ⟨by rfl, ?_⟩) (by assumption) ?_
          · intro w hSw; obtain ⟨p0, p1, p2, p3, q0, q1, q2, q3⟩ := hSw; go_simp
          try simp only [Act.put, List.setIfInBounds_toArray, List.set_cons_zero, List.set_cons_succ]
          refine wpAnyH_take (i := 6) (oi := { dst := some 33, op := _, type := _, pos := _, after := _, guard := _ }) (v := v.val) rfl (by kernel_rfl) (by kernel_rfl) (by kernel_rfl) (fun _ _ _ h => h) (Or.inl ⟨by rfl, ?_⟩) (by assumption) ?_
          · intro w hSw; obtain ⟨p0, p1, p2, p3, q0, q1, q2, q3⟩ := hSw; go_simp
          try simp only [Act.put, List.setIfInBounds_toArray, List.set_cons_zero, List.set_cons_succ]
          refine wpAnyH_take (i := 7) (oi := { dst := some 34, op := _, type := _, pos := _, after := _, guard := _ }) (v := .int .i64 cd) rfl (by kernel_rfl) (by kernel_rfl) (by kernel_rfl) (fun _ _ _ h => h) (Or.inl ⟨by rfl, ?_⟩) (by assumption) ?_
          · intro w hSw; obtain ⟨p0, p1, p2, p3, q0, q1, q2, q3⟩ := hSw; go_simp
          try simp only [Act.put, List.setIfInBounds_toArray, List.set_cons_zero, List.set_cons_succ]
          refine wpAnyH_ready (rs := [8]) (by kernel_rfl) (by simp) ?_
          refine AllReadyH.cons (o := { dst := some 6, op := _, type := _, pos := _, after := _, guard := _ }) rfl (fun K hK => ?_) AllReadyH.nil
          go_simp
          refine hK _ _ (SK.out _ (gK.alloc (.cells #[.int .i64 0, .int .i64 0, .slice none 0 0, .slice none 0 0] 30))) (fun hHeld => ?_)
          clear hK K
          replace OX := Lib.hid (OX.out.grow ((Gw.refl _).alloc (.cells #[.int .i64 0, .int .i64 0, .slice none 0 0, .slice none 0 0] 30)))
          replace OY := Lib.hid (OY.out.grow ((Gw.refl _).alloc (.cells #[.int .i64 0, .int .i64 0, .slice none 0 0, .slice none 0 0] 30)))
          have HT := Lib.hid (heap_alloc_new wabf (.cells #[.int .i64 0, .int .i64 0, .slice none 0 0, .slice none 0 0] 30))
          have HTV := Lib.hid (show wabf.heap.size ∉ v.bl from fun e => by have := (NV.out.2.2 _ e).2.lt; omega)
          replace NV := Lib.hid (NV.out.grow coGr ((Gw.refl _).alloc (.cells #[.int .i64 0, .int .i64 0, .slice none 0 0, .slice none 0 0] 30)))
          have TG := Lib.hid gK.size
          have LT := Lib.hid (show wabf.heap.size < (wabf.alloc (.cells #[.int .i64 0, .int .i64 0, .slice none 0 0, .slice none 0 0] 30)).heap.size by simp)
          replace gK := gK.alloc (.cells #[.int .i64 0, .int .i64 0, .slice none 0 0, .slice none 0 0] 30)
          try simp only [Act.put, List.setIfInBounds_toArray, List.set_cons_zero, List.set_cons_succ]
          generalize wabf.alloc (.cells #[.int .i64 0, .int .i64 0, .slice none 0 0, .slice none 0 0] 30) = wabfl at *
          generalize wabf.heap.size = T at *
          obtain ⟨z0, z1, z2, z3, y0, y1, y2, y3⟩ := zero_atP HT.out
          refine wpAnyH_ready (rs := [9]) (by kernel_rfl) (by simp) ?_
          refine AllReadyH.cons (o := { dst := none, op := _, type := _, pos := _, after := _, guard := _ }) rfl (fun K hK => ?_) AllReadyH.nil
          go_simp
          refine hK _ _ (SK.out _ ((((Below.setCell gK TG.out _).setCell TG.out _).setCell TG.out _).setCell TG.out _)) (fun hHeld => ?_)
          clear hK K
          try simp only [Act.put, List.setIfInBounds_toArray, List.set_cons_zero, List.set_cons_succ]
          refine wpAnyH_take (i := 10) (oi := { dst := some 7, op := _, type := _, pos := _, after := _, guard := _ }) (v := .int .i64 cd) rfl (by kernel_rfl) (by kernel_rfl) (by kernel_rfl) (fun _ _ _ h => h) (Or.inl ⟨by rfl, ?_⟩) (by assumption) ?_
          · intro w hSw; obtain ⟨p0, p1, p2, p3, q0, q1, q2, q3⟩ := hSw; go_simp
          try simp only [Act.put, List.setIfInBounds_toArray, List.set_cons_zero, List.set_cons_succ]
          refine wpAnyH_done (by kernel_rfl) ?_ _
          go_wp2_with fail
          go_meet
          case rel =>
            refine ⟨T, v, rfl, rfl, TG.out, ⟨30, by simp [World.setCell, Array.getElem?_modify, HT.out]⟩, HV.out, (gNew.same coFr NV.out fun y hy => ?_).mono (by have := VB.out; omega), ((((Below.setCell gK TG.out _).setCell TG.out _).setCell TG.out _).setCell TG.out _)⟩
            have hne : y ≠ T := fun e => HTV.out (e ▸ hy)
            rw [Below.heap_setCell _ _ _ _ hne, Below.heap_setCell _ _ _ _ hne, Below.heap_setCell _ _ _ _ hne, Below.heap_setCell _ _ _ _ hne]
        · go_simp
          refine hK _ _ (SK.out _ (gK.alloc (.cells #[.int .i64 0, .int .i64 0, .slice none 0 0, .slice none 0 0] 30))) (fun hHeld => ?_)
          clear hK K
          replace OX := Lib.hid (OX.out.grow ((Gw.refl _).alloc (.cells #[.int .i64 0, .int .i64 0, .slice none 0 0, .slice none 0 0] 30)))
          replace OY := Lib.hid (OY.out.grow ((Gw.refl _).alloc (.cells #[.int .i64 0, .int .i64 0, .slice none 0 0, .slice none 0 0] 30)))
          have HT := Lib.hid (heap_alloc_new wab (.cells #[.int .i64 0, .int .i64 0, .slice none 0 0, .slice none 0 0] 30))
          have TG := Lib.hid gK.size
          have LT := Lib.hid (show wab.heap.size < (wab.alloc (.cells #[.int .i64 0, .int .i64 0, .slice none 0 0, .slice none 0 0] 30)).heap.size by simp)
          replace gK := gK.alloc (.cells #[.int .i64 0, .int .i64 0, .slice none 0 0, .slice none 0 0] 30)
          try simp only [Act.put, List.setIfInBounds_toArray, List.set_cons_zero, List.set_cons_succ]
          generalize wab.alloc (.cells #[.int .i64 0, .int .i64 0, .slice none 0 0, .slice none 0 0] 30) = wabl at *
          generalize wab.heap.size = T at *
          refine wpAnyH_ready (rs := [4]) (by kernel_rfl) (by simp) ?_
          refine AllReadyH.cons (o := { dst := some 32, op := _, type := _, pos := _, after := _, guard := _ }) rfl (fun K hK => ?_) AllReadyH.nil
          go_simp
          go_at_call 39
          refine (KS.out x y _ gK OX.out OY.out HX.out HY.out).mono ?_
          rintro e wablf ⟨v, rfl, hv, nv, g1⟩
          have HV := Lib.hid hv
          have NV := Lib.hid nv
          have VB := Lib.hid gK.size
          have HTV := Lib.hid (show T ∉ v.bl from fun e => by have := (nv.2.2 _ e).1; have := LT.out; omega)
          replace HT := Lib.hid ((g1.block _ LT.out).trans HT.out)
          replace LT := Lib.hid (Nat.lt_of_lt_of_le LT.out g1.size)
          replace gK := gK.trans g1
          clear hv nv g1
          go_wp2_with fail
          refine hK.out _ _ (SK.out _ gK) (fun hHeld => ?_)
          clear hK K
          try simp only [Act.put, List.setIfInBounds_toArray, List.set_cons_zero, List.set_cons_succ]
          refine wpAnyH_take (i := 5) (oi := { dst := some 27, op := _, type := _, pos := _, after := _, guard := _ }) (v := .tuple #[v.val, .int .i64 cd]) rfl (by kernel_rfl) (by kernel_rfl) (by kernel_rfl) (fun _ _ _ h => h) (Or.inl ⟨by rfl, ?_⟩) (by assumption) ?_
          · intro w hSw; obtain ⟨p0, p1, p2, p3, q0, q1, q2, q3⟩ := hSw; go_simp
          try simp only [Act.put, List.setIfInBounds_toArray, List.set_cons_zero, List.set_cons_succ]
          refine wpAnyH_take (i := 6) (oi := { dst := some 33, op := _, type := _, pos := _, after := _, guard := _ }) (v := v.val) rfl (by kernel_rfl) (by kernel_rfl) (by kernel_rfl) (fun _ _ _ h => h) (Or.inl ⟨by rfl, ?_⟩) (by assumption) ?_
          · intro w hSw; obtain ⟨p0, p1, p2, p3, q0, q1, q2, q3⟩ := hSw; go_simp
          try simp only [Act.put, List.setIfInBounds_toArray, List.set_cons_zero, List.set_cons_succ]
          refine wpAnyH_take (i := 7) (oi := { dst := some 34, op := _, type := _, pos := _, after := _, guard := _ }) (v := .int .i64 cd) rfl (by kernel_rfl) (by kernel_rfl) (by kernel_rfl) (fun _ _ _ h => h) (Or.inl ⟨by rfl, ?_⟩) (by assumption) ?_
          · intro w hSw; obtain ⟨p0, p1, p2, p3, q0, q1, q2, q3⟩ := hSw; go_simp
          try simp only [Act.put, List.setIfInBounds_toArray, List.set_cons_zero, List.set_cons_succ]
          obtain ⟨z0, z1, z2, z3, y0, y1, y2, y3⟩ := zero_atP HT.out
          refine wpAnyH_ready (rs := [9]) (by kernel_rfl) (by simp) ?_
          refine AllReadyH.cons (o := { dst := none, op := _, type := _, pos := _, after := _, guard := _ }) rfl (fun K hK => ?_) AllReadyH.nil
          go_simp
          refine hK _ _ (SK.out _ ((((Below.setCell gK TG.out _).setCell TG.out _).setCell TG.out _).setCell TG.out _)) (fun hHeld => ?_)
          clear hK K
          try simp only [Act.put, List.setIfInBounds_toArray, List.set_cons_zero, List.set_cons_succ]
          refine wpAnyH_take (i := 10) (oi := { dst := some 7, op := _, type := _, pos := _, after := _, guard := _ }) (v := .int .i64 cd) rfl (by kernel_rfl) (by kernel_rfl) (by kernel_rfl) (fun _ _ _ h => h) (Or.inl ⟨by rfl, ?_⟩) (by assumption) ?_
          · intro w hSw; obtain ⟨p0, p1, p2, p3, q0, q1, q2, q3⟩ := hSw; go_simp
          try simp only [Act.put, List.setIfInBounds_toArray, List.set_cons_zero, List.set_cons_succ]
          refine wpAnyH_done (by kernel_rfl) ?_ _
          go_wp2_with fail
          go_meet
          case rel =>
            refine ⟨T, v, rfl, rfl, TG.out, ⟨30, by simp [World.setCell, Array.getElem?_modify, HT.out]⟩, HV.out, (gNew.same coFr NV.out fun y hy => ?_).mono (by have := VB.out; omega), ((((Below.setCell gK TG.out _).setCell TG.out _).setCell TG.out _).setCell TG.out _)⟩
            have hne : y ≠ T := fun e => HTV.out (e ▸ hy)
            rw [Below.heap_setCell _ _ _ _ hne, Below.heap_setCell _ _ _ _ hne, Below.heap_setCell _ _ _ _ hne, Below.heap_setCell _ _ _ _ hne]
      · go_simp
        refine hK _ _ (SK.out _ (gK.alloc (.cells #[.int .i64 0, .int .i64 0, .slice none 0 0, .slice none 0 0] 30))) (fun hHeld => ?_)
        clear hK K
        replace OX := Lib.hid (OX.out.grow ((Gw.refl _).alloc (.cells #[.int .i64 0, .int .i64 0, .slice none 0 0, .slice none 0 0] 30)))
        have HT := Lib.hid (heap_alloc_new wa (.cells #[.int .i64 0, .int .i64 0, .slice none 0 0, .slice none 0 0] 30))
        have TG := Lib.hid gK.size
        have LT := Lib.hid (show wa.heap.size < (wa.alloc (.cells #[.int .i64 0, .int .i64 0, .slice none 0 0, .slice none 0 0] 30)).heap.size by simp)
        replace gK := gK.alloc (.cells #[.int .i64 0, .int .i64 0, .slice none 0 0, .slice none 0 0] 30)
        try simp only [Act.put, List.setIfInBounds_toArray, List.set_cons_zero, List.set_cons_succ]
        generalize wa.alloc (.cells #[.int .i64 0, .int .i64 0, .slice none 0 0, .slice none 0 0] 30) = wal at *
        generalize wa.heap.size = T at *
        refine wpAnyH_ready (rs := [3]) (by kernel_rfl) (by simp) ?_
        refine AllReadyH.cons (o := { dst := some 31, op := _, type := _, pos := _, after := _, guard := _ }) rfl (fun K hK => ?_) AllReadyH.nil
        go_simp
        go_at_call 17
        refine (laws_toCore a1 _ (OB.out.grow gK) hzB).mono ?_
        rintro e walb ⟨y, rfl, hy, ny, g1⟩
        have HY := Lib.hid hy
        have OY := Lib.hid ny.1
        replace OX := Lib.hid (OX.out.grow g1)
        replace HT := Lib.hid ((g1.block _ LT.out).trans HT.out)
        replace LT := Lib.hid (Nat.lt_of_lt_of_le LT.out g1.size)
        replace gK := gK.trans g1
        clear hy ny g1
        go_wp2_with fail
        refine hK.out _ _ (SK.out _ gK) (fun hHeld => ?_)
        clear hK K
        try simp only [Act.put, List.setIfInBounds_toArray, List.set_cons_zero, List.set_cons_succ]
        refine wpAnyH_ready (rs := [4]) (by kernel_rfl) (by simp) ?_
        refine AllReadyH.cons (o := { dst := some 32, op := _, type := _, pos := _, after := _, guard := _ }) rfl (fun K hK => ?_) AllReadyH.nil
        go_simp
        go_at_call 39
        refine (KS.out x y _ gK OX.out OY.out HX.out HY.out).mono ?_
        rintro e wablf ⟨v, rfl, hv, nv, g1⟩
        have HV := Lib.hid hv
        have NV := Lib.hid nv
        have VB := Lib.hid gK.size
        have HTV := Lib.hid (show T ∉ v.bl from fun e => by have := (nv.2.2 _ e).1; have := LT.out; omega)
        replace HT := Lib.hid ((g1.block _ LT.out).trans HT.out)
        replace LT := Lib.hid (Nat.lt_of_lt_of_le LT.out g1.size)
        replace gK := gK.trans g1
        clear hv nv g1
        go_wp2_with fail
        refine hK.out _ _ (SK.out _ gK) (fun hHeld => ?_)
        clear hK K
        try simp only [Act.put, List.setIfInBounds_toArray, List.set_cons_zero, List.set_cons_succ]
        refine wpAnyH_take (i := 5) (oi := { dst := some 27, op := _, type := _, pos := _, after := _, guard := _ }) (v := .tuple #[v.val, .int .i64 cd]) rfl (by kernel_rfl) (by kernel_rfl) (by kernel_rfl) (fun _ _ _ h => h) (Or.inl ⟨by rfl, ?_⟩) (by assumption) ?_
        · intro w hSw; obtain ⟨p0, p1, p2, p3, q0, q1, q2, q3⟩ := hSw; go_simp
        try simp only [Act.put, List.setIfInBounds_toArray, List.set_cons_zero, List.set_cons_succ]
        refine wpAnyH_take (i := 6) (oi := { dst := some 33, op := _, type := _, pos := _, after := _, guard := _ }) (v := v.val) rfl (by kernel_rfl) (by kernel_rfl) (by kernel_rfl) (fun _ _ _ h => h) (Or.inl ⟨by rfl, ?_⟩) (by assumption) ?_
        · intro w hSw; obtain ⟨p0, p1, p2, p3, q0, q1, q2, q3⟩ := hSw; go_simp
        try simp only [Act.put, List.setIfInBounds_toArray, List.set_cons_zero, List.set_cons_succ]
        refine wpAnyH_take (i := 7) (oi := { dst := some 34, op := _, type := _, pos := _, after := _, guard := _ }) (v := .int .i64 cd) rfl (by kernel_rfl) (by kernel_rfl) (by kernel_rfl) (fun _ _ _ h => h) (Or.inl ⟨by rfl, ?_⟩) (by assumption) ?_
        · intro w hSw; obtain ⟨p0, p1, p2, p3, q0, q1, q2, q3⟩ := hSw; go_simp
        try simp only [Act.put, List.setIfInBounds_toArray, List.set_cons_zero, List.set_cons_succ]
        obtain ⟨z0, z1, z2, z3, y0, y1, y2, y3⟩ := zero_atP HT.out
        refine wpAnyH_ready (rs := [9]) (by kernel_rfl) (by simp) ?_
        refine AllReadyH.cons (o := { dst := none, op := _, type := _, pos := _, after := _, guard := _ }) rfl (fun K hK => ?_) AllReadyH.nil
        go_simp
        refine hK _ _ (SK.out _ ((((Below.setCell gK TG.out _).setCell TG.out _).setCell TG.out _).setCell TG.out _)) (fun hHeld => ?_)
        clear hK K
        try simp only [Act.put, List.setIfInBounds_toArray, List.set_cons_zero, List.set_cons_succ]
        refine wpAnyH_take (i := 10) (oi := { dst := some 7, op := _, type := _, pos := _, after := _, guard := _ }) (v := .int .i64 cd) rfl (by kernel_rfl) (by kernel_rfl) (by kernel_rfl) (fun _ _ _ h => h) (Or.inl ⟨by rfl, ?_⟩) (by assumption) ?_
        · intro w hSw; obtain ⟨p0, p1, p2, p3, q0, q1, q2, q3⟩ := hSw; go_simp
        try simp only [Act.put, List.setIfInBounds_toArray, List.set_cons_zero, List.set_cons_succ]
        refine wpAnyH_done (by kernel_rfl) ?_ _
        go_wp2_with fail
        go_meet
        case rel =>
          refine ⟨T, v, rfl, rfl, TG.out, ⟨30, by simp [World.setCell, Array.getElem?_modify, HT.out]⟩, HV.out, (gNew.same coFr NV.out fun y hy => ?_).mono (by have := VB.out; omega), ((((Below.setCell gK TG.out _).setCell TG.out _).setCell TG.out _).setCell TG.out _)⟩
          have hne : y ≠ T := fun e => HTV.out (e ▸ hy)
          rw [Below.heap_setCell _ _ _ _ hne, Below.heap_setCell _ _ _ _ hne, Below.heap_setCell _ _ _ _ hne, Below.heap_setCell _ _ _ _ hne]
    · go_simp
      refine hK _ _ (SK.out _ (gK.alloc (.cells #[.int .i64 0, .int .i64 0, .slice none 0 0, .slice none 0 0] 30))) (fun hHeld => ?_)
      clear hK K
      have HT := Lib.hid (heap_alloc_new wD (.cells #[.int .i64 0, .int .i64 0, .slice none 0 0, .slice none 0 0] 30))
      have TG := Lib.hid gK.size
      have LT := Lib.hid (show wD.heap.size < (wD.alloc (.cells #[.int .i64 0, .int .i64 0, .slice none 0 0, .slice none 0 0] 30)).heap.size by simp)
      replace gK := gK.alloc (.cells #[.int .i64 0, .int .i64 0, .slice none 0 0, .slice none 0 0] 30)
      try simp only [Act.put, List.setIfInBounds_toArray, List.set_cons_zero, List.set_cons_succ]
      generalize wD.alloc (.cells #[.int .i64 0, .int .i64 0, .slice none 0 0, .slice none 0 0] 30) = wl at *
      generalize wD.heap.size = T at *
      refine wpAnyH_ready (rs := [1]) (by kernel_rfl) (by simp) ?_
      refine AllReadyH.cons (o := { dst := some 29, op := _, type := _, pos := _, after := _, guard := _ }) rfl (fun K hK => ?_) AllReadyH.nil
      go_simp
      go_at_call 17
      refine (laws_toCore a0 _ (OA.out.grow gK) hzA).mono ?_
      rintro e wla ⟨x, rfl, hx, nx, g1⟩
      have HX := Lib.hid hx
      have OX := Lib.hid nx.1
      replace HT := Lib.hid ((g1.block _ LT.out).trans HT.out)
      replace LT := Lib.hid (Nat.lt_of_lt_of_le LT.out g1.size)
      replace gK := gK.trans g1
      clear hx nx g1
      go_wp2_with fail
      refine hK.out _ _ (SK.out _ gK) (fun hHeld => ?_)
      clear hK K
      try simp only [Act.put, List.setIfInBounds_toArray, List.set_cons_zero, List.set_cons_succ]
      refine wpAnyH_ready (rs := [3]) (by kernel_rfl) (by simp) ?_
      refine AllReadyH.cons (o := { dst := some 31, op := _, type := _, pos := _, after := _, guard := _ }) rfl (fun K hK => ?_) AllReadyH.nil
      go_simp
      go_at_call 17
      refine (laws_toCore a1 _ (OB.out.grow gK) hzB).mono ?_
      rintro e walb ⟨y, rfl, hy, ny, g1⟩
      have HY := Lib.hid hy
      have OY := Lib.hid ny.1
      replace OX := Lib.hid (OX.out.grow g1)
      replace HT := Lib.hid ((g1.block _ LT.out).trans HT.out)
      replace LT := Lib.hid (Nat.lt_of_lt_of_le LT.out g1.size)
      replace gK := gK.trans g1
      clear hy ny g1
      go_wp2_with fail
      refine hK.out _ _ (SK.out _ gK) (fun hHeld => ?_)
      clear hK K
      try simp only [Act.put, List.setIfInBounds_toArray, List.set_cons_zero, List.set_cons_succ]
      refine wpAnyH_ready (rs := [4]) (by kernel_rfl) (by simp) ?_
      refine AllReadyH.cons (o := { dst := some 32, op := _, type := _, pos := _, after := _, guard := _ }) rfl (fun K hK => ?_) AllReadyH.nil
      go_simp
      go_at_call 39
      refine (KS.out x y _ gK OX.out OY.out HX.out HY.out).mono ?_
      rintro e wablf ⟨v, rfl, hv, nv, g1⟩
      have HV := Lib.hid hv
      have NV := Lib.hid nv
      have VB := Lib.hid gK.size
      have HTV := Lib.hid (show T ∉ v.bl from fun e => by have := (nv.2.2 _ e).1; have := LT.out; omega)
      replace HT := Lib.hid ((g1.block _ LT.out).trans HT.out)
      replace LT := Lib.hid (Nat.lt_of_lt_of_le LT.out g1.size)
      replace gK := gK.trans g1
      clear hv nv g1
      go_wp2_with fail
      refine hK.out _ _ (SK.out _ gK) (fun hHeld => ?_)
      clear hK K
      try simp only [Act.put, List.setIfInBounds_toArray, List.set_cons_zero, List.set_cons_succ]
      refine wpAnyH_take (i := 5) (oi := { dst := some 27, op := _, type := _, pos := _, after := _, guard := _ }) (v := .tuple #[v.val, .int .i64 cd]) rfl (by kernel_rfl) (by kernel_rfl) (by kernel_rfl) (fun _ _ _ h => h) (Or.inl ⟨by rfl, ?_⟩) (by assumption) ?_
      · intro w hSw; obtain ⟨p0, p1, p2, p3, q0, q1, q2, q3⟩ := hSw; go_simp
      try simp only [Act.put, List.setIfInBounds_toArray, List.set_cons_zero, List.set_cons_succ]
      refine wpAnyH_take (i := 6) (oi := { dst := some 33, op := _, type := _, pos := _, after := _, guard := _ }) (v := v.val) rfl (by kernel_rfl) (by kernel_rfl) (by kernel_rfl) (fun _ _ _ h => h) (Or.inl ⟨by rfl, ?_⟩) (by assumption) ?_
      · intro w hSw; obtain ⟨p0, p1, p2, p3, q0, q1, q2, q3⟩ := hSw; go_simp
      try simp only [Act.put, List.setIfInBounds_toArray, List.set_cons_zero, List.set_cons_succ]
      refine wpAnyH_take (i := 7) (oi := { dst := some 34, op := _, type := _, pos := _, after := _, guard := _ }) (v := .int .i64 cd) rfl (by kernel_rfl) (by kernel_rfl) (by kernel_rfl) (fun _ _ _ h => h) (Or.inl ⟨by rfl, ?_⟩) (by assumption) ?_
      · intro w hSw; obtain ⟨p0, p1, p2, p3, q0, q1, q2, q3⟩ := hSw; go_simp
      try simp only [Act.put, List.setIfInBounds_toArray, List.set_cons_zero, List.set_cons_succ]
      obtain ⟨z0, z1, z2, z3, y0, y1, y2, y3⟩ := zero_atP HT.out
      refine wpAnyH_ready (rs := [9]) (by kernel_rfl) (by simp) ?_
      refine AllReadyH.cons (o := { dst := none, op := _, type := _, pos := _, after := _, guard := _ }) rfl (fun K hK => ?_) AllReadyH.nil
      go_simp
      refine hK _ _ (SK.out _ ((((Below.setCell gK TG.out _).setCell TG.out _).setCell TG.out _).setCell TG.out _)) (fun hHeld => ?_)
      clear hK K
      try simp only [Act.put, List.setIfInBounds_toArray, List.set_cons_zero, List.set_cons_succ]
      refine wpAnyH_take (i := 10) (oi := { dst := some 7, op := _, type := _, pos := _, after := _, guard := _ }) (v := .int .i64 cd) rfl (by kernel_rfl) (by kernel_rfl) (by kernel_rfl) (fun _ _ _ h => h) (Or.inl ⟨by rfl, ?_⟩) (by assumption) ?_
      · intro w hSw; obtain ⟨p0, p1, p2, p3, q0, q1, q2, q3⟩ := hSw; go_simp
      try simp only [Act.put, List.setIfInBounds_toArray, List.set_cons_zero, List.set_cons_succ]
      refine wpAnyH_done (by kernel_rfl) ?_ _
      go_wp2_with fail
      go_meet
      case rel =>
        refine ⟨T, v, rfl, rfl, TG.out, ⟨30, by simp [World.setCell, Array.getElem?_modify, HT.out]⟩, HV.out, (gNew.same coFr NV.out fun y hy => ?_).mono (by have := VB.out; omega), ((((Below.setCell gK TG.out _).setCell TG.out _).setCell TG.out _).setCell TG.out _)⟩
        have hne : y ≠ T := fun e => HTV.out (e ▸ hy)
        rw [Below.heap_setCell _ _ _ _ hne, Below.heap_setCell _ _ _ _ hne, Below.heap_setCell _ _ _ _ hne, Below.heap_setCell _ _ _ _ hne]
  obtain ⟨T, v, rfl, rfl, hTw, B4, hv, nv, gC⟩ := hcut
  have HV := Lib.hid hv
  have gW0 := gW.trans gC
  have B0 := BA.out.grow gC
  have B1 := BB.out.grow gC
  have hTl : T < wc.heap.size := B4.lt
  have hvlt : ∀ y ∈ v.bl, y < wc.heap.size := fun y hy => (nv.2.2 y hy).2.lt
  have hwC : w.heap.size + 2 ≤ wC.heap.size := by have := BB.out.lt; omega
  clear hv
  obtain ⟨p0, p1, p2, p3⟩ := B0.c
  go_wp2_with fail
  refine (laws_toCore a0 _ (OA.out.grow gC) hzA).mono ?_
  rintro e w4 ⟨x, rfl, hx, nx, g4⟩
  have HX := Lib.hid hx
  have hs4 : wc.heap.size ≤ w4.heap.size := g4.size
  have hxlt : ∀ z ∈ x.bl, z < w4.heap.size := fun z hz => (nx.2.2 z hz).2.lt
  have hxge : ∀ z ∈ x.bl, wc.heap.size ≤ z := fun z hz => (nx.2.2 z hz).1
  clear p0 p1 p2 p3
  have gA : Gw wc (w4.alloc (.cells #[.int .i64 x.k, .int .i64 x.v, .slice x.da x.ds.length x.dc, .slice x.a x.ks.length x.cap] 30)) := g4.alloc _
  replace B0 := B0.grow gA
  replace B1 := B1.grow gA
  replace B4 := B4.grow gA
  have B5 := BoxK.new w4 x 30
  have V4 := gNew.grow coGr nv gA
  have X4 := gNew.grow coGr nx ((Gw.refl w4).alloc (.cells #[.int .i64 x.k, .int .i64 x.v, .slice x.da x.ds.length x.dc, .slice x.a x.ks.length x.cap] 30))
  replace gC := gC.trans gA
  have hz4 : (w4.alloc (.cells #[.int .i64 x.k, .int .i64 x.v, .slice x.da x.ds.length x.dc, .slice x.a x.ks.length x.cap] 30)).heap.size = w4.heap.size + 1 := by simp
  clear gA g4 nx hx nv gW0
  go_upto_region 10 with (fail)
  generalize w4.alloc (.cells #[.int .i64 x.k, .int .i64 x.v, .slice x.da x.ds.length x.dc, .slice x.a x.ks.length x.cap] 30) = W4 at *
  obtain ⟨p0, p1, p2, p3⟩ := B1.c
  go_wp2_with fail
  refine (laws_toCore a1 _ (OB.out.grow gC) hzB).mono ?_
  rintro e w5 ⟨y, rfl, hy, ny, g5⟩
  have HY := Lib.hid hy
  have hs5 : W4.heap.size ≤ w5.heap.size := g5.size
  have hylt : ∀ z ∈ y.bl, z < w5.heap.size := fun z hz => (ny.2.2 z hz).2.lt
  have hyge : ∀ z ∈ y.bl, W4.heap.size ≤ z := fun z hz => (ny.2.2 z hz).1
  clear p0 p1 p2 p3
  have gA : Gw W4 (w5.alloc (.cells #[.int .i64 y.k, .int .i64 y.v, .slice y.da y.ds.length y.dc, .slice y.a y.ks.length y.cap] 30)) := g5.alloc _
  replace B0 := B0.grow gA
  replace B1 := B1.grow gA
  replace B4 := B4.grow gA
  replace B5 := B5.grow gA
  have B6 := BoxK.new w5 y 30
  have V5 := gNew.grow coGr V4 gA
  have X5 := gNew.grow coGr X4 gA
  have Y5 := gNew.grow coGr ny ((Gw.refl w5).alloc (.cells #[.int .i64 y.k, .int .i64 y.v, .slice y.da y.ds.length y.dc, .slice y.a y.ks.length y.cap] 30))
  replace gC := gC.trans gA
  have hz5 : (w5.alloc (.cells #[.int .i64 y.k, .int .i64 y.v, .slice y.da y.ds.length y.dc, .slice y.a y.ks.length y.cap] 30)).heap.size = w5.heap.size + 1 := by simp
  clear gA g5 ny hy V4 X4
  go_upto_region 11 with (fail)
  generalize w5.alloc (.cells #[.int .i64 y.k, .int .i64 y.v, .slice y.da y.ds.length y.dc, .slice y.a y.ks.length y.cap] 30) = W5 at *
  obtain ⟨p0, p1, p2, p3⟩ := B5.c
  obtain ⟨q0, q1, q2, q3⟩ := B6.c
  go_wp2_with fail
  refine (KI.out x y _ gC X5.1 Y5.1 HX.out HY.out).mono ?_
  rintro e w6 ⟨u, rfl, hu, nu, g6⟩
  have HU := Lib.hid hu
  have hs6 : W5.heap.size ≤ w6.heap.size := g6.size
  have hult : ∀ z ∈ u.bl, z < w6.heap.size := fun z hz => (nu.2.2 z hz).2.lt
  have huge : ∀ z ∈ u.bl, W5.heap.size ≤ z := fun z hz => (nu.2.2 z hz).1
  clear p0 p1 p2 p3 q0 q1 q2 q3
  have gA : Gw W5 (w6.alloc (.cells #[.int .i64 u.k, .int .i64 u.v, .slice u.da u.ds.length u.dc, .slice u.a u.ks.length u.cap] 30)) := g6.alloc _
  replace B0 := B0.grow gA
  replace B1 := B1.grow gA
  replace B4 := B4.grow gA
  replace B5 := B5.grow gA
  replace B6 := B6.grow gA
  have B7 := BoxK.new w6 u 30
  have V6 := gNew.grow coGr V5 gA
  have X6 := gNew.grow coGr X5 gA
  have Y6 := gNew.grow coGr Y5 gA
  have U6 := gNew.grow coGr nu ((Gw.refl w6).alloc (.cells #[.int .i64 u.k, .int .i64 u.v, .slice u.da u.ds.length u.dc, .slice u.a u.ks.length u.cap] 30))
  replace gC := gC.trans gA
  have hz6 : (w6.alloc (.cells #[.int .i64 u.k, .int .i64 u.v, .slice u.da u.ds.length u.dc, .slice u.a u.ks.length u.cap] 30)).heap.size = w6.heap.size + 1 := by simp
  clear gA g6 nu hu V5 X5 Y5
  go_upto_region 12 with (fail)
  generalize w6.alloc (.cells #[.int .i64 u.k, .int .i64 u.v, .slice u.da u.ds.length u.dc, .slice u.a u.ks.length u.cap] 30) = W6 at *
  have hneq : (cd != cd) = false := by simp
  obtain ⟨p0, p1, p2, p3⟩ := B7.c
  obtain ⟨q0, q1, q2, q3⟩ := B4.c
  go_wp2_with fail
  refine (laws_eqCore u v _ U6.1 V6.1 (HU.out.trans HV.out.symm)).mono ?_
  rintro e w7 ⟨rfl, g7⟩
  replace gC := gC.trans g7
  replace B0 := B0.grow g7
  replace B1 := B1.grow g7
  replace B4 := B4.grow g7
  replace B5 := B5.grow g7
  replace B6 := B6.grow g7
  replace B7 := B7.grow g7
  have V7 := gNew.grow coGr V6 g7
  have X7 := gNew.grow coGr X6 g7
  have Y7 := gNew.grow coGr Y6 g7
  have U7 := gNew.grow coGr U6 g7
  have hs7 : W6.heap.size ≤ w7.heap.size := g7.size
  clear p0 p1 p2 p3 q0 q1 q2 q3 V6 X6 Y6 U6 g7
  go_upto_region 14 with (fail)
  obtain ⟨q0, q1, q2, q3⟩ := B5.c
  obtain ⟨p0, p1, p2, p3⟩ := B0.c
  have lX := B5.lt
  have lA := B0.lt
  have o6 : a0.Ok w7.drew := OA.out.grow gC.drew
  have y6 : x.Ok w7.drew := X7.1.grow (Gw.refl w7).drew
  go_region_held3 (fun W => W.cell? ⟨w4.heap.size, 0, none⟩ = some (.int .i64 x.k) ∧ W.cell? ⟨w4.heap.size, 1, none⟩ = some (.int .i64 x.v) ∧ W.cell? ⟨w4.heap.size, 2, none⟩ = some (.slice x.da x.ds.length x.dc) ∧ W.cell? ⟨w4.heap.size, 3, none⟩ = some (.slice x.a x.ks.length x.cap) ∧ W.cell? ⟨w.heap.size, 0, none⟩ = some (.int .i64 a0.k) ∧ W.cell? ⟨w.heap.size, 1, none⟩ = some (.int .i64 a0.v) ∧ W.cell? ⟨w.heap.size, 2, none⟩ = some (.slice a0.da a0.ds.length a0.dc) ∧ W.cell? ⟨w.heap.size, 3, none⟩ = some (.slice a0.a a0.ks.length a0.cap))
    (first | exact ⟨q0, q1, q2, q3, p0, p1, p2, p3⟩ | exact ⟨(k6 _ _ lX).trans q0, (k6 _ _ lX).trans q1, (k6 _ _ lX).trans q2, (k6 _ _ lX).trans q3, (k6 _ _ lA).trans p0, (k6 _ _ lA).trans p1, (k6 _ _ lA).trans p2, (k6 _ _ lA).trans p3⟩ | exact ⟨(k7 _ _ lX).trans q0, (k7 _ _ lX).trans q1, (k7 _ _ lX).trans q2, (k7 _ _ lX).trans q3, (k7 _ _ lA).trans p0, (k7 _ _ lA).trans p1, (k7 _ _ lA).trans p2, (k7 _ _ lA).trans p3⟩)
    (first
      | (go_at_call 17; refine (laws_toCore a0 _ (by exact o6) hzA).mono ?_; rintro e wa ⟨z, rfl, hz', nz, ga⟩; have HZ := Lib.hid hz'; clear hz'; have k6 : ∀ b o, b < w7.heap.size → wa.cell? ⟨b, o, none⟩ = w7.cell? ⟨b, o, none⟩ := fun b o h => (bcell ga).1 b o h)
      | (go_at_call 19; refine (laws_eqCore x z _ (by exact y6.grow ga) nz.1 (by rw [HX.out, HZ.out])).mono ?_; rintro e w8 ⟨rfl, gb⟩; have k7 : ∀ b o, b < w7.heap.size → w8.cell? ⟨b, o, none⟩ = w7.cell? ⟨b, o, none⟩ := fun b o h => ((bcell gb).1 b o (Nat.lt_of_lt_of_le h ga.size)).trans (k6 b o h)))
  have gA : Gw w7 w8 := ((Gw.refl w7).drew.trans ga).trans gb
  replace B0 := B0.grow gA
  replace B1 := B1.grow gA
  replace B4 := B4.grow gA
  replace B5 := B5.grow gA
  replace B6 := B6.grow gA
  replace B7 := B7.grow gA
  have V8 := gNew.grow coGr V7 gA
  have X8 := gNew.grow coGr X7 gA
  have Y8 := gNew.grow coGr Y7 gA
  have U8 := gNew.grow coGr U7 gA
  replace gC := gC.trans gA
  have hs8 : w7.heap.size ≤ w8.heap.size := gA.size
  clear gA ga gb k6 k7 o6 y6 lX lA p0 p1 p2 p3 q0 q1 q2 q3 V7 X7 Y7 U7 HZ nz
  go_upto_region 16 with (fail)
  obtain ⟨q0, q1, q2, q3⟩ := B6.c
  obtain ⟨p0, p1, p2, p3⟩ := B1.c
  have lX := B6.lt
  have lA := B1.lt
  have o6 : a1.Ok w8.drew := OB.out.grow gC.drew
  have y6 : y.Ok w8.drew := Y8.1.grow (Gw.refl w8).drew
  go_region_held3 (fun W => W.cell? ⟨w5.heap.size, 0, none⟩ = some (.int .i64 y.k) ∧ W.cell? ⟨w5.heap.size, 1, none⟩ = some (.int .i64 y.v) ∧ W.cell? ⟨w5.heap.size, 2, none⟩ = some (.slice y.da y.ds.length y.dc) ∧ W.cell? ⟨w5.heap.size, 3, none⟩ = some (.slice y.a y.ks.length y.cap) ∧ W.cell? ⟨w.heap.size + 1, 0, none⟩ = some (.int .i64 a1.k) ∧ W.cell? ⟨w.heap.size + 1, 1, none⟩ = some (.int .i64 a1.v) ∧ W.cell? ⟨w.heap.size + 1, 2, none⟩ = some (.slice a1.da a1.ds.length a1.dc) ∧ W.cell? ⟨w.heap.size + 1, 3, none⟩ = some (.slice a1.a a1.ks.length a1.cap))
    (first | exact ⟨q0, q1, q2, q3, p0, p1, p2, p3⟩ | exact ⟨(k6 _ _ lX).trans q0, (k6 _ _ lX).trans q1, (k6 _ _ lX).trans q2, (k6 _ _ lX).trans q3, (k6 _ _ lA).trans p0, (k6 _ _ lA).trans p1, (k6 _ _ lA).trans p2, (k6 _ _ lA).trans p3⟩ | exact ⟨(k7 _ _ lX).trans q0, (k7 _ _ lX).trans q1, (k7 _ _ lX).trans q2, (k7 _ _ lX).trans q3, (k7 _ _ lA).trans p0, (k7 _ _ lA).trans p1, (k7 _ _ lA).trans p2, (k7 _ _ lA).trans p3⟩)
    (first
      | (go_at_call 17; refine (laws_toCore a1 _ (by exact o6) hzB).mono ?_; rintro e wa ⟨z, rfl, hz', nz, ga⟩; have HZ := Lib.hid hz'; clear hz'; have k6 : ∀ b o, b < w8.heap.size → wa.cell? ⟨b, o, none⟩ = w8.cell? ⟨b, o, none⟩ := fun b o h => (bcell ga).1 b o h)
      | (go_at_call 19; refine (laws_eqCore y z _ (by exact y6.grow ga) nz.1 (by rw [HY.out, HZ.out])).mono ?_; rintro e w9 ⟨rfl, gb⟩; have k7 : ∀ b o, b < w8.heap.size → w9.cell? ⟨b, o, none⟩ = w8.cell? ⟨b, o, none⟩ := fun b o h => ((bcell gb).1 b o (Nat.lt_of_lt_of_le h ga.size)).trans (k6 b o h)))
  have gA : Gw w8 w9 := ((Gw.refl w8).drew.trans ga).trans gb
  replace B0 := B0.grow gA
  replace B1 := B1.grow gA
  replace B4 := B4.grow gA
  replace B5 := B5.grow gA
  replace B6 := B6.grow gA
  replace B7 := B7.grow gA
  have V9 := gNew.grow coGr V8 gA
  have X9 := gNew.grow coGr X8 gA
  have Y9 := gNew.grow coGr Y8 gA
  have U9 := gNew.grow coGr U8 gA
  replace gC := gC.trans gA
  have hs9 : w8.heap.size ≤ w9.heap.size := gA.size
  clear gA ga gb k6 k7 o6 y6 lX lA p0 p1 p2 p3 q0 q1 q2 q3 V8 X8 Y8 U8 HZ nz
  have gW9 := gW.trans gC
  have HSZ := Lib.hid hwC
  obtain ⟨q0, q1, q2, q3⟩ := B5.c
  go_wp2_with fail
  have hcx : 1 + x.mcn ≤ 4000000 := mcn_lik4 HX.out hzA
  have hcy : y.mcn ≤ 4000000 := by have := mcn_lik4 HY.out hzB; omega
  have keyM := laws_markK x _ w9 1 X9 (Nat.le_refl _) (by omega)
  rw [show ((1 : Nat) : Int) = 1 from rfl] at keyM
  refine keyM.mono ?_
  clear keyM q0 q1 q2 q3
  rintro e w10 ⟨rfl, _, hc⟩
  have hs10 : w9.heap.size ≤ w10.heap.size := hc.2.2.2.1
  replace B0 := B0.chg hc (fun hm => by have := hxge _ hm; omega)
  replace B1 := B1.chg hc (fun hm => by have := hxge _ hm; omega)
  replace B4 := B4.chg hc (fun hm => by have := hxge _ hm; omega)
  replace B6 := B6.chg hc (fun hm => by have := hxlt _ hm; omega)
  replace B7 := B7.chg hc (fun hm => by have := hxlt _ hm; omega)
  have V10 := new_chg V9 hc (fun b hb hm => by have := hvlt _ hb; have := hxge _ hm; omega)
  have Y10 := new_chg Y9 hc (fun b hb hm => by have := hyge _ hb; have := hxlt _ hm; omega)
  have U10 := new_chg U9 hc (fun b hb hm => by have := huge _ hb; have := hxlt _ hm; omega)
  replace gC : Gw wC w10 := Below.trans gC (hc.gw (by have := gC.size; omega) (fun b hb hm => by have := hxge _ hm; omega))
  clear hc B5 V9 X9 U9 Y9 gW9
  have hq1 := mk_top x 1
  have hxm : 2 ≤ x.mcn := by rw [mcn_eq]; omega
  generalize (mkc x.ks (1 + x.ds.length)).2 = qx at *
  obtain ⟨q0, q1, q2, q3⟩ := B6.c
  go_wp2_with fail
  refine (laws_markK y _ w10 qx Y10 (by omega) (by omega)).mono ?_
  clear q0 q1 q2 q3
  rintro e w11 ⟨rfl, _, hc⟩
  have hs11 : w10.heap.size ≤ w11.heap.size := hc.2.2.2.1
  replace B0 := B0.chg hc (fun hm => by have := hyge _ hm; omega)
  replace B1 := B1.chg hc (fun hm => by have := hyge _ hm; omega)
  replace B4 := B4.chg hc (fun hm => by have := hyge _ hm; omega)
  replace B7 := B7.chg hc (fun hm => by have := hylt _ hm; omega)
  have V11 := new_chg V10 hc (fun b hb hm => by have := hvlt _ hb; have := hyge _ hm; omega)
  have U11 := new_chg U10 hc (fun b hb hm => by have := huge _ hb; have := hylt _ hm; omega)
  replace gC : Gw wC w11 := Below.trans gC (hc.gw (by have := gC.size; omega) (fun b hb hm => by have := hyge _ hm; omega))
  clear hc B6 V10 Y10 U10 hq1 hxm hcx hcy
  generalize (mkc y.ks (qx + y.ds.length)).2 = qk at *
  have hqk : ¬ ((qk : Nat) : Int) < 0 := by omega
  obtain ⟨p0, p1, p2, p3⟩ := B7.c
  obtain ⟨q0, q1, q2, q3⟩ := B4.c
  go_wp2_with fail
  refine (laws_eqCore u v _ U11.1 V11.1 (HU.out.trans HV.out.symm)).mono ?_
  rintro e w12 ⟨rfl, g12⟩
  replace gC := gC.trans g12
  replace B0 := B0.grow g12
  replace B1 := B1.grow g12
  replace B4 := B4.grow g12
  replace B7 := B7.grow g12
  have V12 := gNew.grow coGr V11 g12
  have U12 := gNew.grow coGr U11 g12
  have hs12 : w11.heap.size ≤ w12.heap.size := g12.size
  clear p0 p1 p2 p3 q0 q1 q2 q3 V11 U11 g12 hqk
  have HCU := Lib.hid (show 1 + u.mcn ≤ 8000000 by have := MC.out; rw [mcn_co, HU.out]; omega)
  obtain ⟨p0, p1, p2, p3⟩ := B7.c
  go_wp2_with fail
  have keyM := laws_markK u _ w12 1 U12 (Nat.le_refl _) HCU.out
  rw [show ((1 : Nat) : Int) = 1 from rfl] at keyM
  refine keyM.mono ?_
  clear keyM p0 p1 p2 p3
  rintro e w13 ⟨rfl, SL, hc⟩
  have hs13 : w12.heap.size ≤ w13.heap.size := hc.2.2.2.1
  replace B0 := B0.chg hc (fun hm => by have := huge _ hm; omega)
  replace B1 := B1.chg hc (fun hm => by have := huge _ hm; omega)
  replace B4 := B4.chg hc (fun hm => by have := huge _ hm; omega)
  replace B7 := B7.chg hc (fun hm => by have := hult _ hm; omega)
  have V13 := new_chg V12 hc (fun b hb hm => by have := hvlt _ hb; have := huge _ hm; omega)
  replace gC : Gw wC w13 := Below.trans gC (hc.gw (by have := gC.size; omega) (fun b hb hm => by have := huge _ hm; omega))
  have HKH := Lib.hid (show ∀ W : World, Gw w13 W → Calls Tryd.prog 38 #[u.val, .int .i64 1] W (HdN W (mkc u.ks (1 + u.ds.length)).2) from fun W g => laws_heldK u W 1 (SL.1.grow g) (Nat.le_refl _) HCU.out)
  clear hc V12 U12 SL
  generalize (mkc u.ks (1 + u.ds.length)).2 = qm at *
  have hqm : ¬ ((qm : Nat) : Int) < 0 := by omega
  obtain ⟨p0, p1, p2, p3⟩ := B7.c
  go_wp2_with fail
  refine (HKH.out w13 (Gw.refl _)).mono ?_
  rintro e w14 ⟨rfl, g14⟩
  replace gC := gC.trans g14
  replace B0 := B0.grow g14
  replace B1 := B1.grow g14
  replace B4 := B4.grow g14
  replace B7 := B7.grow g14
  have V14 := gNew.grow coGr V13 g14
  have HK2 := Lib.hid (show ∀ W : World, Gw w14 W → Calls Tryd.prog 38 #[u.val, .int .i64 1] W (HdN W qm) from fun W g => HKH.out W (g14.trans g))
  clear p0 p1 p2 p3 V13 HKH g14
  go_upto_region 31 with (fail)
  clear hxlt hxge hylt hyge hult huge hvlt hTl hs4 hz4 hs5 hz5 hs6 hz6 hs7 hs8 hs9 hs10 hs11 hs12 hs13 hqm
  have SK2 := Lib.hid (show ∀ W, Gw w14 W → (fun W => W.cell? ⟨w.heap.size, 0, none⟩ = some (.int .i64 a0.k) ∧ W.cell? ⟨w.heap.size, 1, none⟩ = some (.int .i64 a0.v) ∧ W.cell? ⟨w.heap.size, 2, none⟩ = some (.slice a0.da a0.ds.length a0.dc) ∧ W.cell? ⟨w.heap.size, 3, none⟩ = some (.slice a0.a a0.ks.length a0.cap) ∧ W.cell? ⟨w.heap.size + 1, 0, none⟩ = some (.int .i64 a1.k) ∧ W.cell? ⟨w.heap.size + 1, 1, none⟩ = some (.int .i64 a1.v) ∧ W.cell? ⟨w.heap.size + 1, 2, none⟩ = some (.slice a1.da a1.ds.length a1.dc) ∧ W.cell? ⟨w.heap.size + 1, 3, none⟩ = some (.slice a1.a a1.ks.length a1.cap)) W from fun W g => ⟨(B0.grow g).c.1, (B0.grow g).c.2.1, (B0.grow g).c.2.2.1, (B0.grow g).c.2.2.2, (B1.grow g).c.1, (B1.grow g).c.2.1, (B1.grow g).c.2.2.1, (B1.grow g).c.2.2.2⟩)
  have OA2 := Lib.hid (OA.out.grow gC)
  have OB2 := Lib.hid (OB.out.grow gC)
  have KI2 := Lib.hid (show ∀ (x y : LK) (W : World), Gw w14 W → x.Ok W → y.Ok W → x.co = a0.co → y.co = a1.co → Calls Tryd.prog 40 #[x.val, y.val] W fun e w' => ∃ v : LK, e = .returned (.tuple #[v.val, .int .i64 cd]) ∧ v.co = rs ∧ v.New W.heap.size w' ∧ Gw W w' from fun x y W g => KI.out x y W (gC.trans g))
  have HVV := Lib.hid HV.out
  go_cut [15, 16] from 15 to 101 (fun t6 t7 wx => ∃ (T : Nat) (v : LK), t6 = .pointer (some ⟨T, 0, none⟩) ∧ t7 = .int .i64 cd ∧ w14.heap.size ≤ T ∧ BoxK wx T v ∧ v.co = rs ∧ v.New w14.heap.size wx ∧ Gw w14 wx)
  case first =>
    clear HV
    refine wp_region_held_drew (S := fun W => W.cell? ⟨w.heap.size, 0, none⟩ = some (.int .i64 a0.k) ∧ W.cell? ⟨w.heap.size, 1, none⟩ = some (.int .i64 a0.v) ∧ W.cell? ⟨w.heap.size, 2, none⟩ = some (.slice a0.da a0.ds.length a0.dc) ∧ W.cell? ⟨w.heap.size, 3, none⟩ = some (.slice a0.a a0.ks.length a0.cap) ∧ W.cell? ⟨w.heap.size + 1, 0, none⟩ = some (.int .i64 a1.k) ∧ W.cell? ⟨w.heap.size + 1, 1, none⟩ = some (.int .i64 a1.v) ∧ W.cell? ⟨w.heap.size + 1, 2, none⟩ = some (.slice a1.da a1.ds.length a1.dc) ∧ W.cell? ⟨w.heap.size + 1, 3, none⟩ = some (.slice a1.a a1.ks.length a1.cap)) (by kernel_rfl) ?_ (fun hHeld => ?_)
    · exact SK2.out _ (Gw.refl _).drew
    have gK : Gw w14 w14.drew := (Gw.refl w14).drew
    generalize w14.drew = wD at *
    refine wpAnyH_take (i := 0) (oi := { dst := some 95, op := _, type := _, pos := _, after := _, guard := _ }) (v := a0.val) rfl (by kernel_rfl) (by kernel_rfl) (by kernel_rfl) (fun _ _ _ h => h) (Or.inl ⟨by rfl, ?_⟩) (by assumption) ?_
    · intro w hSw; obtain ⟨p0, p1, p2, p3, q0, q1, q2, q3⟩ := hSw; go_simp
    try simp only [Act.put, List.setIfInBounds_toArray, List.set_cons_zero, List.set_cons_succ]
    refine wpAnyH_take (i := 2) (oi := { dst := some 97, op := _, type := _, pos := _, after := _, guard := _ }) (v := a1.val) rfl (by kernel_rfl) (by kernel_rfl) (by kernel_rfl) (fun _ _ _ h => h) (Or.inl ⟨by rfl, ?_⟩) (by assumption) ?_
    · intro w hSw; obtain ⟨p0, p1, p2, p3, q0, q1, q2, q3⟩ := hSw; go_simp
    try simp only [Act.put, List.setIfInBounds_toArray, List.set_cons_zero, List.set_cons_succ]
    refine wpAnyH_ready (rs := [1, 8]) (by kernel_rfl) (by simp) ?_
    refine AllReadyH.cons (o := { dst := some 96, op := _, type := _, pos := _, after := _, guard := _ }) rfl (fun K hK => ?_) (AllReadyH.cons (o := { dst := some 15, op := _, type := _, pos := _, after := _, guard := _ }) rfl (fun K hK => ?_) AllReadyH.nil)
    · go_simp
      go_at_call 17
      refine (laws_toCore a0 _ (OA2.out.grow gK) hzA).mono ?_
      rintro e wa ⟨x, rfl, hx, nx, g1⟩
      have HX := Lib.hid hx
      have OX := Lib.hid nx.1
      replace gK := gK.trans g1
      clear hx nx g1
      go_wp2_with fail
      refine hK.out _ _ (SK2.out _ gK) (fun hHeld => ?_)
      clear hK K
      try simp only [Act.put, List.setIfInBounds_toArray, List.set_cons_zero, List.set_cons_succ]
      refine wpAnyH_ready (rs := [3, 8]) (by kernel_rfl) (by simp) ?_
      refine AllReadyH.cons (o := { dst := some 98, op := _, type := _, pos := _, after := _, guard := _ }) rfl (fun K hK => ?_) (AllReadyH.cons (o := { dst := some 15, op := _, type := _, pos := _, after := _, guard := _ }) rfl (fun K hK => ?_) AllReadyH.nil)
      · go_simp
        go_at_call 17
        refine (laws_toCore a1 _ (OB2.out.grow gK) hzB).mono ?_
        rintro e wab ⟨y, rfl, hy, ny, g1⟩
        have HY := Lib.hid hy
        have OY := Lib.hid ny.1
        replace OX := Lib.hid (OX.out.grow g1)
        replace gK := gK.trans g1
        clear hy ny g1
        go_wp2_with fail
        refine hK.out _ _ (SK2.out _ gK) (fun hHeld => ?_)
        clear hK K
        try simp only [Act.put, List.setIfInBounds_toArray, List.set_cons_zero, List.set_cons_succ]
        refine wpAnyH_ready (rs := [4, 8]) (by kernel_rfl) (by simp) ?_
        refine AllReadyH.cons (o := { dst := some 99, op := _, type := _, pos := _, after := _, guard := _ }) rfl (fun K hK => ?_) (AllReadyH.cons (o := { dst := some 15, op := _, type := _, pos := _, after := _, guard := _ }) rfl (fun K hK => ?_) AllReadyH.nil)
        · go_simp
          go_at_call 40
          refine (KI2.out x y _ gK OX.out OY.out HX.out HY.out).mono ?_
          rintro e wabf ⟨v, rfl, hv, nv, g1⟩
          have HV := Lib.hid hv
          have NV := Lib.hid nv
          have VB := Lib.hid gK.size
          replace gK := gK.trans g1
          clear hv nv g1
          go_wp2_with fail
          refine hK.out _ _ (SK2.out _ gK) (fun hHeld => ?_)
          clear hK K
          try simp only [Act.put, List.setIfInBounds_toArray, List.set_cons_zero, List.set_cons_succ]
          refine wpAnyH_take (i := 5) (oi := { dst := some 94, op := _, type := _, pos := _, after := _, guard := _ }) (v := .tuple #[v.val, .int .i64 cd]) rfl (by kernel_rfl) (by kernel_rfl) (by kernel_rfl) (fun _ _ _ h => h) (Or.inl ⟨by rfl, ?_⟩) (by assumption) ?_
          · intro w hSw; obtain ⟨p0, p1, p2, p3, q0, q1, q2, q3⟩ := hSw; go_simp
          try simp only [Act.put, List.setIfInBounds_toArray, List.set_cons_zero, List.set_cons_succ]
          refine wpAnyH_take (i := 6) (oi := { dst := some 100, op := _, type := _, pos := _, after := _, guard := _ }) (v := v.val) rfl (by kernel_rfl) (by kernel_rfl) (by kernel_rfl) (fun _ _ _ h => h) (Or.inl ⟨by rfl, ?_⟩) (by assumption) ?_
          · intro w hSw; obtain ⟨p0, p1, p2, p3, q0, q1, q2, q3⟩ := hSw; go_simp
          try simp only [Act.put, List.setIfInBounds_toArray, List.set_cons_zero, List.set_cons_succ]
          refine wpAnyH_take (i := 7) (oi := { dst := some 101, op := _, type := _, pos := _, after := _, guard := _ }) (v := .int .i64 cd) rfl (by kernel_rfl) (by kernel_rfl) (by kernel_rfl) (fun _ _ _ h => h) (Or.inl ⟨by rfl, ?_⟩) (by assumption) ?_
          · intro w hSw; obtain ⟨p0, p1, p2, p3, q0, q1, q2, q3⟩ := hSw; go_simp
          try simp only [Act.put, List.setIfInBounds_toArray, List.set_cons_zero, List.set_cons_succ]
          refine wpAnyH_ready (rs := [8]) (by kernel_rfl) (by simp) ?_
          refine AllReadyH.cons (o := { dst := some 15, op := _, type := _, pos := _, after := _, guard := _ }) rfl (fun K hK => ?_) AllReadyH.nil
          go_simp
          refine hK _ _ (SK2.out _ (gK.alloc (.cells #[.int .i64 0, .int .i64 0, .slice none 0 0, .slice none 0 0] 30))) (fun hHeld => ?_)
          clear hK K
          replace OX := Lib.hid (OX.out.grow ((Gw.refl _).alloc (.cells #[.int .i64 0, .int .i64 0, .slice none 0 0, .slice none 0 0] 30)))
          replace OY := Lib.hid (OY.out.grow ((Gw.refl _).alloc (.cells #[.int .i64 0, .int .i64 0, .slice none 0 0, .slice none 0 0] 30)))
          have HT := Lib.hid (heap_alloc_new wabf (.cells #[.int .i64 0, .int .i64 0, .slice none 0 0, .slice none 0 0] 30))
          have HTV := Lib.hid (show wabf.heap.size ∉ v.bl from fun e => by have := (NV.out.2.2 _ e).2.lt; omega)
          replace NV := Lib.hid (NV.out.grow coGr ((Gw.refl _).alloc (.cells #[.int .i64 0, .int .i64 0, .slice none 0 0, .slice none 0 0] 30)))
          have TG := Lib.hid gK.size
          have LT := Lib.hid (show wabf.heap.size < (wabf.alloc (.cells #[.int .i64 0, .int .i64 0, .slice none 0 0, .slice none 0 0] 30)).heap.size by simp)
          replace gK := gK.alloc (.cells #[.int .i64 0, .int .i64 0, .slice none 0 0, .slice none 0 0] 30)
          try simp only [Act.put, List.setIfInBounds_toArray, List.set_cons_zero, List.set_cons_succ]
          generalize wabf.alloc (.cells #[.int .i64 0, .int .i64 0, .slice none 0 0, .slice none 0 0] 30) = wabfl at *
          generalize wabf.heap.size = T at *
          obtain ⟨z0, z1, z2, z3, y0, y1, y2, y3⟩ := zero_atP HT.out
          refine wpAnyH_ready (rs := [9]) (by kernel_rfl) (by simp) ?_
          refine AllReadyH.cons (o := { dst := none, op := _, type := _, pos := _, after := _, guard := _ }) rfl (fun K hK => ?_) AllReadyH.nil
          go_simp
          refine hK _ _ (SK2.out _ ((((Below.setCell gK TG.out _).setCell TG.out _).setCell TG.out _).setCell TG.out _)) (fun hHeld => ?_)
          clear hK K
          try simp only [Act.put, List.setIfInBounds_toArray, List.set_cons_zero, List.set_cons_succ]
          refine wpAnyH_take (i := 10) (oi := { dst := some 16, op := _, type := _, pos := _, after := _, guard := _ }) (v := .int .i64 cd) rfl (by kernel_rfl) (by kernel_rfl) (by kernel_rfl) (fun _ _ _ h => h) (Or.inl ⟨by rfl, ?_⟩) (by assumption) ?_
          · intro w hSw; obtain ⟨p0, p1, p2, p3, q0, q1, q2, q3⟩ := hSw; go_simp
          try simp only [Act.put, List.setIfInBounds_toArray, List.set_cons_zero, List.set_cons_succ]
          refine wpAnyH_done (by kernel_rfl) ?_ _
          go_wp2_with fail
          go_meet
          case rel =>
            refine ⟨T, v, rfl, rfl, TG.out, ⟨30, by simp [World.setCell, Array.getElem?_modify, HT.out]⟩, HV.out, (gNew.same coFr NV.out fun y hy => ?_).mono (by have := VB.out; omega), ((((Below.setCell gK TG.out _).setCell TG.out _).setCell TG.out _).setCell TG.out _)⟩
            have hne : y ≠ T := fun e => HTV.out (e ▸ hy)
            rw [Below.heap_setCell _ _ _ _ hne, Below.heap_setCell _ _ _ _ hne, Below.heap_setCell _ _ _ _ hne, Below.heap_setCell _ _ _ _ hne]
        · go_simp
          refine hK _ _ (SK2.out _ (gK.alloc (.cells #[.int .i64 0, .int .i64 0, .slice none 0 0, .slice none 0 0] 30))) (fun hHeld => ?_)
          clear hK K
          replace OX := Lib.hid (OX.out.grow ((Gw.refl _).alloc (.cells #[.int .i64 0, .int .i64 0, .slice none 0 0, .slice none 0 0] 30)))
          replace OY := Lib.hid (OY.out.grow ((Gw.refl _).alloc (.cells #[.int .i64 0, .int .i64 0, .slice none 0 0, .slice none 0 0] 30)))
          have HT := Lib.hid (heap_alloc_new wab (.cells #[.int .i64 0, .int .i64 0, .slice none 0 0, .slice none 0 0] 30))
          have TG := Lib.hid gK.size
          have LT := Lib.hid (show wab.heap.size < (wab.alloc (.cells #[.int .i64 0, .int .i64 0, .slice none 0 0, .slice none 0 0] 30)).heap.size by simp)
          replace gK := gK.alloc (.cells #[.int .i64 0, .int .i64 0, .slice none 0 0, .slice none 0 0] 30)
          try simp only [Act.put, List.setIfInBounds_toArray, List.set_cons_zero, List.set_cons_succ]
          generalize wab.alloc (.cells #[.int .i64 0, .int .i64 0, .slice none 0 0, .slice none 0 0] 30) = wabl at *
          generalize wab.heap.size = T at *
          refine wpAnyH_ready (rs := [4]) (by kernel_rfl) (by simp) ?_
          refine AllReadyH.cons (o := { dst := some 99, op := _, type := _, pos := _, after := _, guard := _ }) rfl (fun K hK => ?_) AllReadyH.nil
          go_simp
          go_at_call 40
          refine (KI2.out x y _ gK OX.out OY.out HX.out HY.out).mono ?_
          rintro e wablf ⟨v, rfl, hv, nv, g1⟩
          have HV := Lib.hid hv
          have NV := Lib.hid nv
          have VB := Lib.hid gK.size
          have HTV := Lib.hid (show T ∉ v.bl from fun e => by have := (nv.2.2 _ e).1; have := LT.out; omega)
          replace HT := Lib.hid ((g1.block _ LT.out).trans HT.out)
          replace LT := Lib.hid (Nat.lt_of_lt_of_le LT.out g1.size)
          replace gK := gK.trans g1
          clear hv nv g1
          go_wp2_with fail
          refine hK.out _ _ (SK2.out _ gK) (fun hHeld => ?_)
          clear hK K
          try simp only [Act.put, List.setIfInBounds_toArray, List.set_cons_zero, List.set_cons_succ]
          refine wpAnyH_take (i := 5) (oi := { dst := some 94, op := _, type := _, pos := _, after := _, guard := _ }) (v := .tuple #[v.val, .int .i64 cd]) rfl (by kernel_rfl) (by kernel_rfl) (by kernel_rfl) (fun _ _ _ h => h) (Or.inl ⟨by rfl, ?_⟩) (by assumption) ?_
          · intro w hSw; obtain ⟨p0, p1, p2, p3, q0, q1, q2, q3⟩ := hSw; go_simp
          try simp only [Act.put, List.setIfInBounds_toArray, List.set_cons_zero, List.set_cons_succ]
          refine wpAnyH_take (i := 6) (oi := { dst := some 100, op := _, type := _, pos := _, after := _, guard := _ }) (v := v.val) rfl (by kernel_rfl) (by kernel_rfl) (by kernel_rfl) (fun _ _ _ h => h) (Or.inl ⟨by rfl, ?_⟩) (by assumption) ?_
          · intro w hSw; obtain ⟨p0, p1, p2, p3, q0, q1, q2, q3⟩ := hSw; go_simp
          try simp only [Act.put, List.setIfInBounds_toArray, List.set_cons_zero, List.set_cons_succ]
          refine wpAnyH_take (i := 7) (oi := { dst := some 101, op := _, type := _, pos := _, after := _, guard := _ }) (v := .int .i64 cd) rfl (by kernel_rfl) (by kernel_rfl) (by kernel_rfl) (fun _ _ _ h => h) (Or.inl ⟨by rfl, ?_⟩) (by assumption) ?_
          · intro w hSw; obtain ⟨p0, p1, p2, p3, q0, q1, q2, q3⟩ := hSw; go_simp
          try simp only [Act.put, List.setIfInBounds_toArray, List.set_cons_zero, List.set_cons_succ]
          obtain ⟨z0, z1, z2, z3, y0, y1, y2, y3⟩ := zero_atP HT.out
          refine wpAnyH_ready (rs := [9]) (by kernel_rfl) (by simp) ?_
          refine AllReadyH.cons (o := { dst := none, op := _, type := _, pos := _, after := _, guard := _ }) rfl (fun K hK => ?_) AllReadyH.nil
          go_simp
          refine hK _ _ (SK2.out _ ((((Below.setCell gK TG.out _).setCell TG.out _).setCell TG.out _).setCell TG.out _)) (fun hHeld => ?_)
          clear hK K
          try simp only [Act.put, List.setIfInBounds_toArray, List.set_cons_zero, List.set_cons_succ]
          refine wpAnyH_take (i := 10) (oi := { dst := some 16, op := _, type := _, pos := _, after := _, guard := _ }) (v := .int .i64 cd) rfl (by kernel_rfl) (by kernel_rfl) (by kernel_rfl) (fun _ _ _ h => h) (Or.inl ⟨by rfl, ?_⟩) (by assumption) ?_
          · intro w hSw; obtain ⟨p0, p1, p2, p3, q0, q1, q2, q3⟩ := hSw; go_simp
          try simp only [Act.put, List.setIfInBounds_toArray, List.set_cons_zero, List.set_cons_succ]
          refine wpAnyH_done (by kernel_rfl) ?_ _
          go_wp2_with fail
          go_meet
          case rel =>
            refine ⟨T, v, rfl, rfl, TG.out, ⟨30, by simp [World.setCell, Array.getElem?_modify, HT.out]⟩, HV.out, (gNew.same coFr NV.out fun y hy => ?_).mono (by have := VB.out; omega), ((((Below.setCell gK TG.out _).setCell TG.out _).setCell TG.out _).setCell TG.out _)⟩
            have hne : y ≠ T := fun e => HTV.out (e ▸ hy)
            rw [Below.heap_setCell _ _ _ _ hne, Below.heap_setCell _ _ _ _ hne, Below.heap_setCell _ _ _ _ hne, Below.heap_setCell _ _ _ _ hne]
      · go_simp
        refine hK _ _ (SK2.out _ (gK.alloc (.cells #[.int .i64 0, .int .i64 0, .slice none 0 0, .slice none 0 0] 30))) (fun hHeld => ?_)
        clear hK K
        replace OX := Lib.hid (OX.out.grow ((Gw.refl _).alloc (.cells #[.int .i64 0, .int .i64 0, .slice none 0 0, .slice none 0 0] 30)))
        have HT := Lib.hid (heap_alloc_new wa (.cells #[.int .i64 0, .int .i64 0, .slice none 0 0, .slice none 0 0] 30))
        have TG := Lib.hid gK.size
        have LT := Lib.hid (show wa.heap.size < (wa.alloc (.cells #[.int .i64 0, .int .i64 0, .slice none 0 0, .slice none 0 0] 30)).heap.size by simp)
        replace gK := gK.alloc (.cells #[.int .i64 0, .int .i64 0, .slice none 0 0, .slice none 0 0] 30)
        try simp only [Act.put, List.setIfInBounds_toArray, List.set_cons_zero, List.set_cons_succ]
        generalize wa.alloc (.cells #[.int .i64 0, .int .i64 0, .slice none 0 0, .slice none 0 0] 30) = wal at *
        generalize wa.heap.size = T at *
        refine wpAnyH_ready (rs := [3]) (by kernel_rfl) (by simp) ?_
        refine AllReadyH.cons (o := { dst := some 98, op := _, type := _, pos := _, after := _, guard := _ }) rfl (fun K hK => ?_) AllReadyH.nil
        go_simp
        go_at_call 17
        refine (laws_toCore a1 _ (OB2.out.grow gK) hzB).mono ?_
        rintro e walb ⟨y, rfl, hy, ny, g1⟩
        have HY := Lib.hid hy
        have OY := Lib.hid ny.1
        replace OX := Lib.hid (OX.out.grow g1)
        replace HT := Lib.hid ((g1.block _ LT.out).trans HT.out)
        replace LT := Lib.hid (Nat.lt_of_lt_of_le LT.out g1.size)
        replace gK := gK.trans g1
        clear hy ny g1
        go_wp2_with fail
        refine hK.out _ _ (SK2.out _ gK) (fun hHeld => ?_)
        clear hK K
        try simp only [Act.put, List.setIfInBounds_toArray, List.set_cons_zero, List.set_cons_succ]
        refine wpAnyH_ready (rs := [4]) (by kernel_rfl) (by simp) ?_
        refine AllReadyH.cons (o := { dst := some 99, op := _, type := _, pos := _, after := _, guard := _ }) rfl (fun K hK => ?_) AllReadyH.nil
        go_simp
        go_at_call 40
        refine (KI2.out x y _ gK OX.out OY.out HX.out HY.out).mono ?_
        rintro e wablf ⟨v, rfl, hv, nv, g1⟩
        have HV := Lib.hid hv
        have NV := Lib.hid nv
        have VB := Lib.hid gK.size
        have HTV := Lib.hid (show T ∉ v.bl from fun e => by have := (nv.2.2 _ e).1; have := LT.out; omega)
        replace HT := Lib.hid ((g1.block _ LT.out).trans HT.out)
        replace LT := Lib.hid (Nat.lt_of_lt_of_le LT.out g1.size)
        replace gK := gK.trans g1
        clear hv nv g1
        go_wp2_with fail
        refine hK.out _ _ (SK2.out _ gK) (fun hHeld => ?_)
        clear hK K
        try simp only [Act.put, List.setIfInBounds_toArray, List.set_cons_zero, List.set_cons_succ]
        refine wpAnyH_take (i := 5) (oi := { dst := some 94, op := _, type := _, pos := _, after := _, guard := _ }) (v := .tuple #[v.val, .int .i64 cd]) rfl (by kernel_rfl) (by kernel_rfl) (by kernel_rfl) (fun _ _ _ h => h) (Or.inl ⟨by rfl, ?_⟩) (by assumption) ?_
        · intro w hSw; obtain ⟨p0, p1, p2, p3, q0, q1, q2, q3⟩ := hSw; go_simp
        try simp only [Act.put, List.setIfInBounds_toArray, List.set_cons_zero, List.set_cons_succ]
        refine wpAnyH_take (i := 6) (oi := { dst := some 100, op := _, type := _, pos := _, after := _, guard := _ }) (v := v.val) rfl (by kernel_rfl) (by kernel_rfl) (by kernel_rfl) (fun _ _ _ h => h) (Or.inl ⟨by rfl, ?_⟩) (by assumption) ?_
        · intro w hSw; obtain ⟨p0, p1, p2, p3, q0, q1, q2, q3⟩ := hSw; go_simp
        try simp only [Act.put, List.setIfInBounds_toArray, List.set_cons_zero, List.set_cons_succ]
        refine wpAnyH_take (i := 7) (oi := { dst := some 101, op := _, type := _, pos := _, after := _, guard := _ }) (v := .int .i64 cd) rfl (by kernel_rfl) (by kernel_rfl) (by kernel_rfl) (fun _ _ _ h => h) (Or.inl ⟨by rfl, ?_⟩) (by assumption) ?_
        · intro w hSw; obtain ⟨p0, p1, p2, p3, q0, q1, q2, q3⟩ := hSw; go_simp
        try simp only [Act.put, List.setIfInBounds_toArray, List.set_cons_zero, List.set_cons_succ]
        obtain ⟨z0, z1, z2, z3, y0, y1, y2, y3⟩ := zero_atP HT.out
        refine wpAnyH_ready (rs := [9]) (by kernel_rfl) (by simp) ?_
        refine AllReadyH.cons (o := { dst := none, op := _, type := _, pos := _, after := _, guard := _ }) rfl (fun K hK => ?_) AllReadyH.nil
        go_simp
        refine hK _ _ (SK2.out _ ((((Below.setCell gK TG.out _).setCell TG.out _).setCell TG.out _).setCell TG.out _)) (fun hHeld => ?_)
        clear hK K
        try simp only [Act.put, List.setIfInBounds_toArray, List.set_cons_zero, List.set_cons_succ]
        refine wpAnyH_take (i := 10) (oi := { dst := some 16, op := _, type := _, pos := _, after := _, guard := _ }) (v := .int .i64 cd) rfl (by kernel_rfl) (by kernel_rfl) (by kernel_rfl) (fun _ _ _ h => h) (Or.inl ⟨by rfl, ?_⟩) (by assumption) ?_
        · intro w hSw; obtain ⟨p0, p1, p2, p3, q0, q1, q2, q3⟩ := hSw; go_simp
        try simp only [Act.put, List.setIfInBounds_toArray, List.set_cons_zero, List.set_cons_succ]
        refine wpAnyH_done (by kernel_rfl) ?_ _
        go_wp2_with fail
        go_meet
        case rel =>
          refine ⟨T, v, rfl, rfl, TG.out, ⟨30, by simp [World.setCell, Array.getElem?_modify, HT.out]⟩, HV.out, (gNew.same coFr NV.out fun y hy => ?_).mono (by have := VB.out; omega), ((((Below.setCell gK TG.out _).setCell TG.out _).setCell TG.out _).setCell TG.out _)⟩
          have hne : y ≠ T := fun e => HTV.out (e ▸ hy)
          rw [Below.heap_setCell _ _ _ _ hne, Below.heap_setCell _ _ _ _ hne, Below.heap_setCell _ _ _ _ hne, Below.heap_setCell _ _ _ _ hne]
    · go_simp
      refine hK _ _ (SK2.out _ (gK.alloc (.cells #[.int .i64 0, .int .i64 0, .slice none 0 0, .slice none 0 0] 30))) (fun hHeld => ?_)
      clear hK K
      have HT := Lib.hid (heap_alloc_new wD (.cells #[.int .i64 0, .int .i64 0, .slice none 0 0, .slice none 0 0] 30))
      have TG := Lib.hid gK.size
      have LT := Lib.hid (show wD.heap.size < (wD.alloc (.cells #[.int .i64 0, .int .i64 0, .slice none 0 0, .slice none 0 0] 30)).heap.size by simp)
      replace gK := gK.alloc (.cells #[.int .i64 0, .int .i64 0, .slice none 0 0, .slice none 0 0] 30)
      try simp only [Act.put, List.setIfInBounds_toArray, List.set_cons_zero, List.set_cons_succ]
      generalize wD.alloc (.cells #[.int .i64 0, .int .i64 0, .slice none 0 0, .slice none 0 0] 30) = wl at *
      generalize wD.heap.size = T at *
      refine wpAnyH_ready (rs := [1]) (by kernel_rfl) (by simp) ?_
      refine AllReadyH.cons (o := { dst := some 96, op := _, type := _, pos := _, after := _, guard := _ }) rfl (fun K hK => ?_) AllReadyH.nil
      go_simp
      go_at_call 17
      refine (laws_toCore a0 _ (OA2.out.grow gK) hzA).mono ?_
      rintro e wla ⟨x, rfl, hx, nx, g1⟩
      have HX := Lib.hid hx
      have OX := Lib.hid nx.1
      replace HT := Lib.hid ((g1.block _ LT.out).trans HT.out)
      replace LT := Lib.hid (Nat.lt_of_lt_of_le LT.out g1.size)
      replace gK := gK.trans g1
      clear hx nx g1
      go_wp2_with fail
      refine hK.out _ _ (SK2.out _ gK) (fun hHeld => ?_)
      clear hK K
      try simp only [Act.put, List.setIfInBounds_toArray, List.set_cons_zero, List.set_cons_succ]
      refine wpAnyH_ready (rs := [3]) (by kernel_rfl) (by simp) ?_
      refine AllReadyH.cons (o := { dst := some 98, op := _, type := _, pos := _, after := _, guard := _ }) rfl (fun K hK => ?_) AllReadyH.nil
      go_simp
      go_at_call 17
      refine (laws_toCore a1 _ (OB2.out.grow gK) hzB).mono ?_
      rintro e walb ⟨y, rfl, hy, ny, g1⟩
      have HY := Lib.hid hy
      have OY := Lib.hid ny.1
      replace OX := Lib.hid (OX.out.grow g1)
      replace HT := Lib.hid ((g1.block _ LT.out).trans HT.out)
      replace LT := Lib.hid (Nat.lt_of_lt_of_le LT.out g1.size)
      replace gK := gK.trans g1
      clear hy ny g1
      go_wp2_with fail
      refine hK.out _ _ (SK2.out _ gK) (fun hHeld => ?_)
      clear hK K
      try simp only [Act.put, List.setIfInBounds_toArray, List.set_cons_zero, List.set_cons_succ]
      refine wpAnyH_ready (rs := [4]) (by kernel_rfl) (by simp) ?_
      refine AllReadyH.cons (o := { dst := some 99, op := _, type := _, pos := _, after := _, guard := _ }) rfl (fun K hK => ?_) AllReadyH.nil
      go_simp
      go_at_call 40
      refine (KI2.out x y _ gK OX.out OY.out HX.out HY.out).mono ?_
      rintro e wablf ⟨v, rfl, hv, nv, g1⟩
      have HV := Lib.hid hv
      have NV := Lib.hid nv
      have VB := Lib.hid gK.size
      have HTV := Lib.hid (show T ∉ v.bl from fun e => by have := (nv.2.2 _ e).1; have := LT.out; omega)
      replace HT := Lib.hid ((g1.block _ LT.out).trans HT.out)
      replace LT := Lib.hid (Nat.lt_of_lt_of_le LT.out g1.size)
      replace gK := gK.trans g1
      clear hv nv g1
      go_wp2_with fail
      refine hK.out _ _ (SK2.out _ gK) (fun hHeld => ?_)
      clear hK K
      try simp only [Act.put, List.setIfInBounds_toArray, List.set_cons_zero, List.set_cons_succ]
      refine wpAnyH_take (i := 5) (oi := { dst := some 94, op := _, type := _, pos := _, after := _, guard := _ }) (v := .tuple #[v.val, .int .i64 cd]) rfl (by kernel_rfl) (by kernel_rfl) (by kernel_rfl) (fun _ _ _ h => h) (Or.inl ⟨by rfl, ?_⟩) (by assumption) ?_
      · intro w hSw; obtain ⟨p0, p1, p2, p3, q0, q1, q2, q3⟩ := hSw; go_simp
      try simp only [Act.put, List.setIfInBounds_toArray, List.set_cons_zero, List.set_cons_succ]
      refine wpAnyH_take (i := 6) (oi := { dst := some 100, op := _, type := _, pos := _, after := _, guard := _ }) (v := v.val) rfl (by kernel_rfl) (by kernel_rfl) (by kernel_rfl) (fun _ _ _ h => h) (Or.inl ⟨by rfl, ?_⟩) (by assumption) ?_
      · intro w hSw; obtain ⟨p0, p1, p2, p3, q0, q1, q2, q3⟩ := hSw; go_simp
      try simp only [Act.put, List.setIfInBounds_toArray, List.set_cons_zero, List.set_cons_succ]
      refine wpAnyH_take (i := 7) (oi := { dst := some 101, op := _, type := _, pos := _, after := _, guard := _ }) (v := .int .i64 cd) rfl (by kernel_rfl) (by kernel_rfl) (by kernel_rfl) (fun _ _ _ h => h) (Or.inl ⟨by rfl, ?_⟩) (by assumption) ?_
      · intro w hSw; obtain ⟨p0, p1, p2, p3, q0, q1, q2, q3⟩ := hSw; go_simp
      try simp only [Act.put, List.setIfInBounds_toArray, List.set_cons_zero, List.set_cons_succ]
      obtain ⟨z0, z1, z2, z3, y0, y1, y2, y3⟩ := zero_atP HT.out
      refine wpAnyH_ready (rs := [9]) (by kernel_rfl) (by simp) ?_
      refine AllReadyH.cons (o := { dst := none, op := _, type := _, pos := _, after := _, guard := _ }) rfl (fun K hK => ?_) AllReadyH.nil
      go_simp
      refine hK _ _ (SK2.out _ ((((Below.setCell gK TG.out _).setCell TG.out _).setCell TG.out _).setCell TG.out _)) (fun hHeld => ?_)
      clear hK K
      try simp only [Act.put, List.setIfInBounds_toArray, List.set_cons_zero, List.set_cons_succ]
      refine wpAnyH_take (i := 10) (oi := { dst := some 16, op := _, type := _, pos := _, after := _, guard := _ }) (v := .int .i64 cd) rfl (by kernel_rfl) (by kernel_rfl) (by kernel_rfl) (fun _ _ _ h => h) (Or.inl ⟨by rfl, ?_⟩) (by assumption) ?_
      · intro w hSw; obtain ⟨p0, p1, p2, p3, q0, q1, q2, q3⟩ := hSw; go_simp
      try simp only [Act.put, List.setIfInBounds_toArray, List.set_cons_zero, List.set_cons_succ]
      refine wpAnyH_done (by kernel_rfl) ?_ _
      go_wp2_with fail
      go_meet
      case rel =>
        refine ⟨T, v, rfl, rfl, TG.out, ⟨30, by simp [World.setCell, Array.getElem?_modify, HT.out]⟩, HV.out, (gNew.same coFr NV.out fun y hy => ?_).mono (by have := VB.out; omega), ((((Below.setCell gK TG.out _).setCell TG.out _).setCell TG.out _).setCell TG.out _)⟩
        have hne : y ≠ T := fun e => HTV.out (e ▸ hy)
        rw [Below.heap_setCell _ _ _ _ hne, Below.heap_setCell _ _ _ _ hne, Below.heap_setCell _ _ _ _ hne, Below.heap_setCell _ _ _ _ hne]
  obtain ⟨T2, h, rfl, rfl, hT2, B9, hh, nh, g14⟩ := hcut
  obtain ⟨p0, p1, p2, p3⟩ := B9.c
  obtain ⟨q0, q1, q2, q3⟩ := (B4.grow g14).c
  go_wp2_with fail
  refine (laws_eqCore h v _ nh.1 (V14.1.grow g14) (hh.trans HVV.out.symm)).mono ?_
  rintro e w15 ⟨rfl, g15⟩
  have B7' := B7.grow (g14.trans g15)
  have gE := gW.trans (gC.trans (g14.trans g15))
  have HK3 := Lib.hid (HK2.out w15 (g14.trans g15))
  clear p0 p1 p2 p3 q0 q1 q2 q3 B9 B4 B7
  obtain ⟨p0, p1, p2, p3⟩ := B7'.c
  have hqm : ¬ ((qm : Nat) : Int) < 0 := by omega
  go_wp2_with fail
  refine HK3.out.mono ?_
  rintro e w16 ⟨rfl, g16⟩
  clear p0 p1 p2 p3
  go_wp2_with fail
  go_ret
  exact ⟨rfl, gE.trans g16⟩

set_option maxRecDepth 100000 in
theorem lifted (os : Os) (started : os.Started) (H : Type) (enc : TypeId × Value → H) :
    ReturnsInHanded {} Tryd.checked os 11 .any (fun w args => (Rows.fnExactInstantiateCoreSpec.pre enc Tryd.prog Tryd.f11 Rows.fnExactInstantiateCoreRow.domain false w args ∧ laidMetH Tryd.prog Rows.fnExactInstantiateCoreRow.laid w) ∧ sizedMet enc Tryd.prog Tryd.f11 (OpenSpec.ofChange Rows.fnExactInstantiateCoreSpec) false w args)
      (Rows.fnExactInstantiateCoreSpec.post enc Tryd.prog Tryd.f11 false true false false) := by
  refine returnsInHanded_of_change_and (C := Tryd.checked) (X := fun w _ => laidMetH Tryd.prog Rows.fnExactInstantiateCoreRow.laid w) (fun _ _ _ hh h => h.of_heap hh) own started (by kernel_rfl) Tryd.func11
    (ChangeSpec.witness_shaped (enc := enc) (C := Tryd.checked) (os := os) (X := fun w _ => laidMetH Tryd.prog Rows.fnExactInstantiateCoreRow.laid w) false (World.laidAll Tryd.prog os Rows.fnExactInstantiateCoreRow.laid) #[.agg #[.int .i64 0, .int .i64 0, .slice none 0 0, .slice none 0 0], .agg #[.int .i64 0, .int .i64 0, .slice none 0 0, .slice none 0 0]] 8 (World.laidAll_os _ _ _)
      (World.shaped_of_ZipB (by kernel_rfl) (by kernel_rfl)) (by kernel_rfl) (by kernel_rfl) (by kernel_rfl)
      (by rw [MakeChecks.laidMetH_plain _ _ _ (by kernel_rfl)]; exact laidMet_laidAll _ (by kernel_rfl) (by kernel_rfl))) ?_
  intro W base args ds gs before hval0 hW _ _ hT _
  have hval : ∀ (j : Nat) t v, Tryd.f11.params[j]? = some t → args[j]? = some v → Value.okWide Tryd.prog W .any base t v := hval0
  have hW' := hW
  obtain ⟨p, q, hA0, hV0, rfl, hfz, hnd⟩ := hW
  have hA : DataW.TrodAll enc Tryd.prog W 0 (fun _ => true) true Tryd.f11.params.toList args.toList ds p := hA0
  rw [Tryd.params11] at hA hval
  obtain ⟨v0, vs0, d0, ds0, p0, q0, hargs, rfl, rfl, h0, r0⟩ := trodAll_cons hA
  obtain ⟨v1, vs1, d1, ds1, p1, q1, rfl, rfl, rfl, h1, r1⟩ := trodAll_cons r0
  obtain ⟨rfl, rfl, rfl⟩ := trodAll_nil r1
  obtain rfl : args = #[v0, v1] := by cases args; simp_all
  obtain ⟨a0, rfl, w0⟩ := open_core (hval 0 25 v0 rfl rfl) h0
  obtain ⟨a1, rfl, w1⟩ := open_core (hval 1 25 v1 rfl rfl) h1
  obtain ⟨g0, rfl⟩ : ∃ g0, gs = [g0] := by
    obtain ⟨g, t, cs, fuel, d, p', rfl, _⟩ := trodVars_one hV0
    exact ⟨d, rfl⟩
  refine (walk W a0 w0 a1 w1 hT).mono fun e W' ⟨he, hg⟩ => ?_
  subst he
  exact ⟨_, rfl, post_law laidOut (by kernel_rfl) (by kernel_rfl) rfl Tryd.underlying4 hW' hg rfl⟩

theorem holds : Rows.FnExactInstantiateCoreSaid :=
  OpenClaim.holds_of_wide 11 Tryd.f11 rfl rfl rfl rfl rfl rfl rfl ⟨rfl, rfl, rfl, rfl, rfl⟩ rfl rfl rfl rfl rfl (by kernel_rfl) Tryd.func11 (by kernel_rfl)
    (of_decide_eq_true (by kernel_rfl)) (by unfold Func.isWrapper; first | (rw [if_pos (by decide +kernel)]; kernel_rfl) | (rw [if_neg (by decide +kernel)]; exact ⟨rfl, rfl⟩))
    (fun os started H enc _ => lifted os started H enc)

/-- The given statement: the tied card. -/
theorem proved : Rows.FnExactInstantiateCoreCardSaid :=
  Claim7.holds_tied_plain_at .later [] [.data] true Rows.fnExactInstantiateCoreCard.stood.harness Rows.fnExactInstantiateCoreCard.stood.looks holds (fun _ h => by cases h) (by kernel_rfl) (fun _ h => by cases h) fnExactInstantiateCore_row_tie rfl ⟨rfl, rfl⟩ (by kernel_rfl) rfl
    (fun f fn hf hfn => by
      obtain rfl : f = 11 := Option.some.inj ((show Tryd.prog.funcNamed Rows.fnExactInstantiateCoreRow.func = some 11 by kernel_rfl).symm.trans hf) |>.symm
      obtain rfl : fn = Tryd.f11 := (Option.some.inj (Tryd.func11.symm.trans hfn)).symm
      exact ⟨by kernel_rfl, fun j t ht => by
        rw [Tryd.params11] at ht
        have hm : t ∈ [25, 25] := by simpa using Array.mem_of_getElem? ht
        have hall : ([25, 25].all fun u => !Tryd.prog.wantsStandIn u) = true := by kernel_rfl
        exact (show Tryd.prog.wantsStandIn t = false by simpa using List.all_eq_true.1 hall t hm)⟩)
    (by kernel_rfl)
#print axioms proved
end Go.Proofs.YtfbgkbgoooepmaaDoor.fnExactInstantiateCore
