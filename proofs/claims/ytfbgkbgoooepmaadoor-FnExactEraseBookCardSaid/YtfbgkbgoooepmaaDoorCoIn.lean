/-
  Contracts of the program's instantiated$1 and, with that visitor, of substituted. Condition: the core terms lie in memory and their heads are valid.
-/
import Derived.Test.YtfbgkbgoooepmaaDoorCoAm
import Derived.Test.YtfbgkbgoooepmaaDoorCoPp
import Derived.Test.YtfbgkbgoooepmaaDoorCoVc
namespace Go.Proofs.YtfbgkbgoooepmaaDoor.Con
open Go.RowKit
set_option linter.unusedVariables false

theorem und_pc : Tryd.prog.underlying 61 = some (.pointer 30) := Tryd.underlying61

set_option maxRecDepth 100000 in
set_option maxHeartbeats 2000000 in
theorem impl_in1 (v : Int) (bd : Nat) (w : World) (Z : Nat → Prop) (BM BG M ab ao : Nat) (a : LK) (hI : InsI w Z BM BG M ab ao a) (hZ : ∀ y, Z y → y < w.heap.size) (hok : okC a.co = true) (hv : 0 ≤ v ∧ v ≤ 2147483647) (hb : bd ≤ 1000) :
    Calls Tryd.prog 112 #[.int .i64 v, .int .i64 bd, .pointer (some ⟨BM, 0, none⟩), .pointer (some ⟨BG, 0, none⟩)] w (VP w Z BM BG M ab ao a (if 0 < v then .mk 1 (v - 1 + bd) [] [] else a.co.sh bd 0)) := by
  have II := Lib.hid hI
  have ZB := Lib.hid hZ
  by_cases h : 0 < v
  · rw [if_pos h]
    have q := decide_eq_true h
    have w1 : IntKind.i64.wrap (v - 1) = v - 1 := by unfold IntKind.wrap; simp [IntKind.signed, IntKind.bits]; omega
    have w2 : IntKind.i64.wrap (v - 1 + bd) = v - 1 + bd := by unfold IntKind.wrap; simp [IntKind.signed, IntKind.bits]; omega
    obtain ⟨Y, hY⟩ : ∃ Y, Y = v - 1 + (bd : Int) := ⟨_, rfl⟩
    have HYB := Lib.hid (show cin64 Y by unfold cin64; omega)
    have HY := Lib.hid hY
    clear h hb hI hZ hv hY
    go_enter Tryd.func112, Tryd.ntmps112
    go_wp2_with fail
    go_ret
    rw [← HY.out]
    have hO : (LK.mk 1 Y none 0 [] none 0 []).Ok w := (zeV_new 0 w Y HYB.out).1
    exact ⟨w.heap.size, 0, .mk 1 Y none 0 [] none 0 [], rfl, coAt.new (e := 30) hO, rfl, (fun e => by have := ZB.out _ e; omega), (fun y hy => by rw [LK.bl_eq] at hy; have hy' : y ∈ nbl nB none [] ++ nbl LK.bl none [] := hy; simp [nbl] at hy'), II.out.grow ((Gw.refl w).alloc _), Chg.of_gw ((Gw.refl w).alloc _) _⟩
  · rw [if_neg h]
    have q := decide_eq_false h
    obtain ⟨i0, i1, i2, i3, i4⟩ := hI
    rcases i2.look bd with ⟨lk, nk⟩ | ⟨xb, xo, x, lk, hx, hxc, hzb, hzy⟩
    · have NK := Lib.hid nk
      have LM9 := Lib.hid i2.lt
      have SHF := Lib.hid (impl_shifted a w.drew ab ao bd 0 (i3.grow (Gw.refl w).drew) hok (by omega) (by omega))
      clear h hb hv hok nk i2 i3 i4 hZ
      go_enter Tryd.func112, Tryd.ntmps112
      go_wp2_with fail
      clear lk
      go_upto_region 4 with (fail)
      refine wp_region_held_drew (S := fun W => W.cell? ⟨BM, 0, none⟩ = some (.map (some M)) ∧ W.cell? ⟨BG, 0, none⟩ = some (.pointer (some ⟨ab, ao, none⟩))) (by kernel_rfl) ?_ (fun hHeld => ?_)
      · exact ⟨i0, i1⟩
      refine wpAnyH_take (i := 0) (oi := { dst := some 19, op := _, type := _, pos := _, after := _, guard := _ }) (v := .map (some M)) rfl (by kernel_rfl) (by kernel_rfl) (by kernel_rfl) (fun _ _ _ h => h) (Or.inl ⟨by rfl, ?_⟩) (by assumption) ?_
      · intro w hSw; obtain ⟨c0, c1⟩ := hSw; go_simp
      try simp only [Act.put, List.setIfInBounds_toArray, List.set_cons_zero, List.set_cons_succ]
      refine wpAnyH_take (i := 1) (oi := { dst := some 20, op := _, type := _, pos := _, after := _, guard := _ }) (v := .int .i64 bd) rfl (by kernel_rfl) (by kernel_rfl) (by kernel_rfl) (fun _ _ _ h => h) (Or.inl ⟨by rfl, ?_⟩) (by assumption) ?_
      · intro w hSw; obtain ⟨c0, c1⟩ := hSw; go_simp
      try simp only [Act.put, List.setIfInBounds_toArray, List.set_cons_zero, List.set_cons_succ]
      refine wpAnyH_take (i := 2) (oi := { dst := some 21, op := _, type := _, pos := _, after := _, guard := _ }) (v := .pointer (some ⟨ab, ao, none⟩)) rfl (by kernel_rfl) (by kernel_rfl) (by kernel_rfl) (fun _ _ _ h => h) (Or.inl ⟨by rfl, ?_⟩) (by assumption) ?_
      · intro w hSw; obtain ⟨c0, c1⟩ := hSw; go_simp
      try simp only [Act.put, List.setIfInBounds_toArray, List.set_cons_zero, List.set_cons_succ]
      refine wpAnyH_take (i := 3) (oi := { dst := some 22, op := _, type := _, pos := _, after := _, guard := _ }) (v := .int .i64 bd) rfl (by kernel_rfl) (by kernel_rfl) (by kernel_rfl) (fun _ _ _ h => h) (Or.inl ⟨by rfl, ?_⟩) (by assumption) ?_
      · intro w hSw; obtain ⟨c0, c1⟩ := hSw; go_simp
      try simp only [Act.put, List.setIfInBounds_toArray, List.set_cons_zero, List.set_cons_succ]
      refine wpAnyH_ready (rs := [4]) (by kernel_rfl) (by simp) ?_
      refine AllReadyH.cons (o := { dst := some 23, op := _, type := _, pos := _, after := _, guard := _ }) rfl (fun K hK => ?_) AllReadyH.nil
      go_simp
      go_at_call 74
      refine SHF.out.mono ?_
      rintro e w3 ⟨xb, xo, x, rfl, hx, hxc, hbl, g3, hge⟩
      have g3' : Gw w w3 := gw_drewL g3
      have hge' : w.heap.size ≤ xb := hge
      have hI3 := II.out.grow g3'
      obtain ⟨W', hput, hm', hch, hlk⟩ := hI3.2.2.1.put (NK.out.same (g3'.block M LM9.out)) hx hxc (fun e => by have := ZB.out xb e; omega) (fun y hy e => by
        rcases hbl y hy with h1 | h1
        · exact hI3.2.2.2.2.2.2.2 y h1 e
        · have h1' : w.heap.size ≤ y := h1
          have := ZB.out y e
          omega)
      have HFAR := hI3.2.2.1.far hx
      have FIN := Lib.hid (show VP w Z BM BG M ab ao a (a.co.sh bd 0) (.returned (.pointer (some ⟨xb, xo, none⟩))) W' from ⟨xb, xo, x, rfl, hx.chg hch HFAR.1 HFAR.2, hxc, (fun e => by have := ZB.out xb e; omega), (fun y hy e => by
        rcases hbl y hy with h1 | h1
        · exact hI3.2.2.2.2.2.2.2 y h1 e
        · have h1' : w.heap.size ≤ y := h1
          have := ZB.out y e
          omega), hI3.put hch hm', (Chg.of_gw g3' (fun y => y = M)).trans hch (fun _ _ e => e)⟩)
      have k0 := hI3.1
      have k1 := hI3.2.1
      have z0 := (hI3.put hch hm').1
      have z1 := (hI3.put hch hm').2.1
      clear hx hxc hbl g3 hge g3' hge' hI3 hm' hch HFAR
      go_wp2_with fail
      refine hK.out _ _ ⟨k0, k1⟩ (fun hHeld => ?_)
      clear hK K
      try simp only [Act.put, List.setIfInBounds_toArray, List.set_cons_zero, List.set_cons_succ]
      refine wpAnyH_ready (rs := [5]) (by kernel_rfl) (by simp) ?_
      refine AllReadyH.cons (o := { dst := none, op := _, type := _, pos := _, after := _, guard := _ }) rfl (fun K hK => ?_) AllReadyH.nil
      go_simp
      refine hK _ _ ⟨z0, z1⟩ (fun hHeld => ?_)
      clear hK K
      try simp only [Act.put, List.setIfInBounds_toArray, List.set_cons_zero, List.set_cons_succ]
      refine wpAnyH_done (by kernel_rfl) ?_ _
      clear i0 i1 k0 k1 hput
      go_wp2_with fail
      go_ret
      exact FIN.out
    · have FIN := Lib.hid (show VP w Z BM BG M ab ao a (a.co.sh bd 0) (.returned (.pointer (some ⟨xb, xo, none⟩))) w from ⟨xb, xo, x, rfl, hx, hxc, hzb, hzy, II.out, Chg.of_gw (Gw.refl w) _⟩)
      clear h hb hv hok i2 i3 i4 hZ hx hxc hzb hzy
      go_enter Tryd.func112, Tryd.ntmps112
      go_wp2_with fail
      go_ret
      exact FIN.out

def KIn (u : LK) : Prop := ∀ (w : World) (Z : Nat → Prop) (b o bd lv BM BG M ab ao : Nat) (a : LK), coAt w b o u → InsI w Z BM BG M ab ao a → (∀ y, Z y → y < w.heap.size) → ¬ Z b → (∀ y ∈ u.bl, ¬ Z y) → u.co.all headC = true → okC a.co = true → bd + u.co.dp ≤ 1000 → lv + u.co.dp ≤ 100000 →
  Calls Tryd.prog 108 #[.pointer (some ⟨b, o, none⟩), .agg #[.int .i64 bd, .int .i64 lv], .func (.func 112) #[] #[.pointer (some ⟨BM, 0, none⟩), .pointer (some ⟨BG, 0, none⟩)]] w (VP w Z BM BG M ab ao a (u.co.pu a.co bd))

set_option maxRecDepth 100000 in
set_option maxHeartbeats 4000000 in
theorem in_of (u : LK) (ih : ∀ t ∈ u.ks, KIn t) : KIn u := by
  intro w Z b o bd lv BM BG M ab ao a h hI hZ hzb hzu hok hoka hbd hlv
  have hH := head_of hok
  obtain ⟨s1, s2, s3, s4⟩ := headC_sm hH
  have HOK := Lib.hid hok
  have HKA := Lib.hid hoka
  have II := Lib.hid hI
  have ZB := Lib.hid hZ
  have ZU := Lib.hid (And.intro hzb hzu)
  have hdp := Co.dp_pos u.co
  have gP := (Gw.refl w).alloc (.cells #[.int .i64 bd, .int .i64 lv] 82)
  have A1 := Lib.hid (h.grow gP)
  have A := Lib.hid h
  have GP := Lib.hid gP
  have hP : BoxP (w.alloc (.cells #[.int .i64 bd, .int .i64 lv] 82)) w.heap.size bd lv := heap_alloc_new w _
  have HPP := Lib.hid hP
  have HML := Lib.hid hI.2.2.1.lt
  have FAR := hI.2.2.1.far h
  have HBM := Lib.hid FAR.1
  have HBLM := Lib.hid FAR.2
  have HPM := Lib.hid (show w.heap.size ≠ M by have := HML.out; omega)
  have LK9 := Lib.hid (show u.ks.length ≤ 1000000 by omega)
  have HBW := Lib.hid (show b < w.heap.size from h.lt)
  clear h hok gP hI hP hZ hzb hzu FAR hoka
  go_enter Tryd.func108, Tryd.ntmps108
  go_upto_region 1 with (fail)
  generalize w.alloc (.cells #[.int .i64 bd, .int .i64 lv] 82) = w1 at *
  obtain ⟨P, hPe⟩ : ∃ P, P = w.heap.size := ⟨_, rfl⟩
  rw [← hPe] at HPP HPM
  rw [← hPe]
  have HPE := Lib.hid hPe
  clear hPe
  obtain ⟨p0, p1, p2, p3⟩ := A1.out.c
  obtain ⟨c0, c1⟩ := HPP.out.c
  have hbn : (bd : Int) ≤ 1000 := by omega
  have hb0 : (0 : Int) ≤ bd := by omega
  by_cases hv : u.k = 1 ∧ (bd : Int) ≤ u.v
  · obtain ⟨h1, h2⟩ := hv
    have q1 : (u.k == 1) = true := by simpa using h1
    have q2 := decide_eq_true h2
    have w4 : IntKind.i64.wrap (u.v - bd) = u.v - bd := by unfold IntKind.wrap; simp [IntKind.signed, IntKind.bits]; omega
    have HVB := Lib.hid (show (0 ≤ u.v - bd ∧ u.v - bd ≤ 2147483647) ∧ bd ≤ 1000 from ⟨by omega, by omega⟩)
    have H1 := Lib.hid h1
    have H2 := Lib.hid h2
    clear h1 h2 hH
    go_wp2_with fail
    go_quiet (fail)
    have gq := gw_drewNL w1 nq
    have A2 := Lib.hid (A1.out.grow gq)
    have HP2 := Lib.hid (HPP.out.grow gq)
    have GQ := Lib.hid (GP.out.trans gq)
    clear p0 p1 p2 p3 c0 c1 q1 q2 gq
    generalize w1.drewN nq = w2 at *
    obtain ⟨p0, p1, p2, p3⟩ := A2.out.c
    obtain ⟨c0, c1⟩ := HP2.out.c
    have SH1 := Lib.hid (impl_in1 (u.v - bd) bd w2.drew Z BM BG M ab ao a (II.out.grow GQ.out.drew) (fun y hy => by have := ZB.out y hy; have := GQ.out.size; have : w2.drew.heap.size = w2.heap.size := rfl; omega) HKA.out HVB.out.1 HVB.out.2)
    have YE := Lib.hid (show (if 0 < u.v - (bd : Int) then Co.mk 1 (u.v - bd - 1 + bd) [] [] else a.co.sh bd 0) = u.co.pu a.co bd by
      rw [pu_eq, u.co_k, u.co_v, if_pos H1.out]
      by_cases hh : u.v = (bd : Int)
      · rw [if_neg (by omega), if_pos hh]
      · have := H2.out
        rw [if_pos (by omega), if_neg hh, if_pos (by omega)]
        congr 1
        omega)
    rw [YE.out] at SH1
    go_upto_region 2 with (fail)
    refine wp_region_held_drew (S := fun W => W.cell? ⟨b, o + 1, none⟩ = some (.int .i64 u.v) ∧ W.cell? ⟨P, 0, none⟩ = some (.int .i64 bd)) (by kernel_rfl) ?_ (fun hHeld => ?_)
    · exact ⟨p1, c0⟩
    refine wpAnyH_take (i := 0) (oi := { dst := some 23, op := _, type := _, pos := _, after := _, guard := _ }) (v := .func (.func 112) #[] #[.pointer (some ⟨BM, 0, none⟩), .pointer (some ⟨BG, 0, none⟩)]) rfl (by kernel_rfl) (by kernel_rfl) (by kernel_rfl) (fun _ _ _ h => h) (Or.inl ⟨by rfl, ?_⟩) (by assumption) ?_
    · intro w hSw; obtain ⟨p1, c0⟩ := hSw; go_simp
    try simp only [Act.put, List.setIfInBounds_toArray, List.set_cons_zero, List.set_cons_succ]
    refine wpAnyH_take (i := 1) (oi := { dst := some 24, op := _, type := _, pos := _, after := _, guard := _ }) (v := .pointer (some ⟨b, o, none⟩)) rfl (by kernel_rfl) (by kernel_rfl) (by kernel_rfl) (fun _ _ _ h => h) (Or.inl ⟨by rfl, ?_⟩) (by assumption) ?_
    · intro w hSw; obtain ⟨p1, c0⟩ := hSw; go_simp
    try simp only [Act.put, List.setIfInBounds_toArray, List.set_cons_zero, List.set_cons_succ]
    refine wpAnyH_take (i := 2) (oi := { dst := some 25, op := _, type := _, pos := _, after := _, guard := _ }) (v := .pointer (some ⟨b, o, none⟩)) rfl (by kernel_rfl) (by kernel_rfl) (by kernel_rfl) (fun _ _ _ h => h) (Or.inl ⟨by rfl, ?_⟩) (by assumption) ?_
    · intro w hSw; obtain ⟨p1, c0⟩ := hSw; go_simp
    try simp only [Act.put, List.setIfInBounds_toArray, List.set_cons_zero, List.set_cons_succ]
    refine wpAnyH_take (i := 3) (oi := { dst := some 26, op := _, type := _, pos := _, after := _, guard := _ }) (v := .pointer (some ⟨b, o + 1, none⟩)) rfl (by kernel_rfl) (by kernel_rfl) (by kernel_rfl) (fun _ _ _ h => h) (Or.inl ⟨by rfl, ?_⟩) (by assumption) ?_
    · intro w hSw; obtain ⟨p1, c0⟩ := hSw; go_simp
    try simp only [Act.put, List.setIfInBounds_toArray, List.set_cons_zero, List.set_cons_succ]
    refine wpAnyH_take (i := 4) (oi := { dst := some 27, op := _, type := _, pos := _, after := _, guard := _ }) (v := .int .i64 u.v) rfl (by kernel_rfl) (by kernel_rfl) (by kernel_rfl) (fun _ _ _ h => h) (Or.inl ⟨by rfl, ?_⟩) (by assumption) ?_
    · intro w hSw; obtain ⟨p1, c0⟩ := hSw; go_simp
    try simp only [Act.put, List.setIfInBounds_toArray, List.set_cons_zero, List.set_cons_succ]
    refine wpAnyH_take (i := 5) (oi := { dst := some 28, op := _, type := _, pos := _, after := _, guard := _ }) (v := .pointer (some ⟨P, 0, none⟩)) rfl (by kernel_rfl) (by kernel_rfl) (by kernel_rfl) (fun _ _ _ h => h) (Or.inl ⟨by rfl, ?_⟩) (by assumption) ?_
    · intro w hSw; obtain ⟨p1, c0⟩ := hSw; go_simp
    try simp only [Act.put, List.setIfInBounds_toArray, List.set_cons_zero, List.set_cons_succ]
    refine wpAnyH_take (i := 6) (oi := { dst := some 29, op := _, type := _, pos := _, after := _, guard := _ }) (v := .int .i64 bd) rfl (by kernel_rfl) (by kernel_rfl) (by kernel_rfl) (fun _ _ _ h => h) (Or.inl ⟨by rfl, ?_⟩) (by assumption) ?_
    · intro w hSw; obtain ⟨p1, c0⟩ := hSw; go_simp
    try simp only [Act.put, List.setIfInBounds_toArray, List.set_cons_zero, List.set_cons_succ]
    refine wpAnyH_take (i := 7) (oi := { dst := some 30, op := _, type := _, pos := _, after := _, guard := _ }) (v := .int .i64 (u.v - bd)) rfl (by kernel_rfl) (by kernel_rfl) (by kernel_rfl) (fun _ _ _ h => h) (Or.inl ⟨by rfl, ?_⟩) (by assumption) ?_
    · intro w hSw; obtain ⟨p1, c0⟩ := hSw; go_simp
    try simp only [Act.put, List.setIfInBounds_toArray, List.set_cons_zero, List.set_cons_succ]
    refine wpAnyH_take (i := 8) (oi := { dst := some 31, op := _, type := _, pos := _, after := _, guard := _ }) (v := .pointer (some ⟨P, 0, none⟩)) rfl (by kernel_rfl) (by kernel_rfl) (by kernel_rfl) (fun _ _ _ h => h) (Or.inl ⟨by rfl, ?_⟩) (by assumption) ?_
    · intro w hSw; obtain ⟨p1, c0⟩ := hSw; go_simp
    try simp only [Act.put, List.setIfInBounds_toArray, List.set_cons_zero, List.set_cons_succ]
    refine wpAnyH_take (i := 9) (oi := { dst := some 32, op := _, type := _, pos := _, after := _, guard := _ }) (v := .int .i64 bd) rfl (by kernel_rfl) (by kernel_rfl) (by kernel_rfl) (fun _ _ _ h => h) (Or.inl ⟨by rfl, ?_⟩) (by assumption) ?_
    · intro w hSw; obtain ⟨p1, c0⟩ := hSw; go_simp
    try simp only [Act.put, List.setIfInBounds_toArray, List.set_cons_zero, List.set_cons_succ]
    refine wpAnyH_ready (rs := [10]) (by kernel_rfl) (by simp) ?_
    refine AllReadyH.cons (o := { dst := some 33, op := _, type := _, pos := _, after := _, guard := _ }) rfl (fun K hK => ?_) AllReadyH.nil
    go_simp
    go_at_call 112
    refine SH1.out.mono ?_
    rintro e w3 ⟨xb, xo, x, rfl, hx, hxc, hzb, hzy, hI, hc⟩
    have HX := Lib.hid hx
    have HXC := Lib.hid hxc
    have HZB := Lib.hid hzb
    have HZY := Lib.hid hzy
    have HIX := Lib.hid hI
    have HCX := Lib.hid (show Chg w2 w3 (fun y => y = M) from hc)
    have k1 := (show Chg w2 w3 (fun y => y = M) from hc).cell p1 HBM.out
    have k0 := (show Chg w2 w3 (fun y => y = M) from hc).cell c0 HPM.out
    clear hx hxc hzb hzy hI hc
    go_wp2_with fail
    refine hK.out _ _ ⟨k1, k0⟩ (fun hHeld => ?_)
    clear hK K
    try simp only [Act.put, List.setIfInBounds_toArray, List.set_cons_zero, List.set_cons_succ]
    refine wpAnyH_take (i := 11) (oi := { dst := some 6, op := _, type := _, pos := _, after := _, guard := _ }) (v := .pointer (some ⟨xb, xo, none⟩)) rfl (by kernel_rfl) (by kernel_rfl) (by kernel_rfl) (fun _ _ _ h => h) (Or.inl ⟨by rfl, ?_⟩) (by assumption) ?_
    · intro w hSw; obtain ⟨p1, c0⟩ := hSw; go_simp
    try simp only [Act.put, List.setIfInBounds_toArray, List.set_cons_zero, List.set_cons_succ]
    refine wpAnyH_done (by kernel_rfl) ?_ _
    go_wp2_with fail
    go_ret
    exact ⟨_, _, _, rfl, HX.out, HXC.out, HZB.out, HZY.out, HIX.out, (Chg.of_gw GQ.out (fun y => y = M)).trans HCX.out (fun _ _ e => e)⟩
  · have cs : ((u.k == 1) = true ∧ decide ((bd : Int) ≤ u.v) = false) ∨ ((u.k == 1) = false ∧ True) := by
      by_cases h1 : u.k = 1
      · exact .inl ⟨by simpa using h1, decide_eq_false (fun e => hv ⟨h1, e⟩)⟩
      · exact .inr ⟨by simpa using h1, trivial⟩
    have VE := Lib.hid (show u.co.pu a.co bd = .mk u.k u.v u.ds (copus u.k 0 u.co.ks a.co bd) by
      rw [pu_eq, u.co_k, u.co_v, u.co_ds]
      by_cases h1 : u.k = 1
      · have hvv := headC_var (by have := hH; rwa [h1] at this)
        have hks : u.co.ks = [] := List.eq_nil_of_length_eq_zero (by rw [u.co_len]; exact hvv.1)
        have hlt : ¬ (bd : Int) ≤ u.v := fun e => hv ⟨h1, e⟩
        rw [if_pos h1, if_neg (by omega), if_neg (by omega), hvv.2.1, hks, h1]
        simp [copus, Co.pu.pus]
      · rw [if_neg h1])
    clear hv
    rcases cs with ⟨q1, q2⟩ | ⟨q1, q2⟩ <;> (
    go_wp2_with fail
    go_quiet (fail)
    have gq := gw_drewNL w1 nq
    have A2 := Lib.hid (A1.out.grow gq)
    have HP2 := Lib.hid (HPP.out.grow gq)
    have GQ := Lib.hid (GP.out.trans gq)
    clear p0 p1 p2 p3 c0 c1 q1 q2 gq
    generalize w1.drewN nq = w2 at *
    obtain ⟨p0, p1, p2, p3⟩ := A2.out.c
    obtain ⟨T, hTe⟩ : ∃ T, T = w2.heap.size := ⟨_, rfl⟩
    have gA : Gw w2 (w2.alloc (u.obj 30)) := (Gw.refl w2).alloc _
    have hTA : (w2.alloc (u.obj 30)).heap[T]? = some (.cells #[.int .i64 u.k, .int .i64 u.v, .slice u.da u.ds.length u.dc, .slice u.a u.ks.length u.cap] 30 (0, 0)) := by rw [hTe]; exact heap_alloc_new w2 _
    have HTA := Lib.hid hTA
    have HTE := Lib.hid hTe
    have A3 := Lib.hid (A2.out.grow gA)
    have HP3 := Lib.hid (HP2.out.grow gA)
    have G3 := Lib.hid (GQ.out.trans gA)
    have SA := Lib.hid (show (w2.alloc (u.obj 30)).heap.size = T + 1 by rw [hTe]; simp)
    clear gA hTA
    go_upto_region 4 with (fail)
    rw [← hTe]
    clear p0 p1 p2 p3 hTe
    generalize w2.alloc (.cells #[.int .i64 u.k, .int .i64 u.v, .slice u.da u.ds.length u.dc, .slice u.a u.ks.length u.cap] 30) = w3 at *
    obtain ⟨p0, p1, p2, p3⟩ := A3.out.c
    have KC := Lib.hid (impl_cloneK u.ks w3 u.a u.cap A3.out.2.kids LK9.out)
    go_wp2_with fail
    refine KC.out.mono ?_
    rintro e w4 ⟨vk, rfl, hvk, g4⟩
    obtain ⟨ka, kc, rfl⟩ := own_form hvk
    have HTI := Lib.hid ((g4.block _ (by have := SA.out; omega)).trans HTA.out)
    have t3 : w4.cell? ⟨T, 3, none⟩ = some (.slice u.a u.ks.length u.cap) := cell_of_row _ _ 3 _ _ _ HTI.out
    have f3 : w4.frozen? ⟨T, 3, none⟩ = false := by simp [World.frozen?, HTI.out]
    have HVK := Lib.hid hvk
    have hTw : w.heap.size ≤ T := by have h1 := G3.out.size; have h2 := SA.out; have h3 := GQ.out.size; have h4 := HTE.out; omega
    have G4 := Lib.hid (G3.out.trans g4)
    have A4 := Lib.hid (A3.out.grow g4)
    have HP4 := Lib.hid (HP3.out.grow g4)
    have S34 := Lib.hid g4.size
    clear hvk g4 p0 p1 p2 p3
    have HTW := Lib.hid hTw
    have KC9 := Lib.hid (show kc ≤ maxLen ∧ u.ks.length ≤ kc by
      rcases HVK.out.2 with ⟨e, e0⟩ | ⟨g, cap, cur, e, _, _, h1, h2, _⟩
      · injection e with _ _ e
        subst e
        exact ⟨Nat.zero_le _, by omega⟩
      · injection e with _ _ e
        subst e
        exact ⟨h2, h1⟩)
    have hfar : ∀ y, y ≠ T → (w4.setCell ⟨T, 3, none⟩ (.slice ka u.ks.length kc)).heap[y]? = w4.heap[y]? := fun y hy => Below.heap_setCell _ _ _ _ hy
    have HTJ := Lib.hid (show (w4.setCell ⟨T, 3, none⟩ (.slice ka u.ks.length kc)).heap[T]? = some (.cells #[.int .i64 u.k, .int .i64 u.v, .slice u.da u.ds.length u.dc, .slice ka u.ks.length kc] 30 (0, 0)) by simp [World.setCell, Array.getElem?_modify, HTI.out])
    have G5 := Lib.hid (show Gw w (w4.setCell ⟨T, 3, none⟩ (.slice ka u.ks.length kc)) from Below.setCell G4.out hTw _)
    have HP5 := Lib.hid (show BoxP (w4.setCell ⟨T, 3, none⟩ (.slice ka u.ks.length kc)) P bd lv from (hfar P (by have := HP2.out.lt; have := HTE.out; omega)).trans HP4.out)
    have HG0 := Lib.hid (show u.ks.length ≠ 0 → ∃ g, ka = some ⟨g, 0, none⟩ ∧ T < g ∧ RowS (w4.setCell ⟨T, 3, none⟩ (.slice ka u.ks.length kc)) g kc [] from fun hne => by
      rcases HVK.out.2 with ⟨e, e0⟩ | ⟨g, cap, cur, e, hb, hg, h1, h2, h3, _⟩
      · exact absurd e0 hne
      · injection e with e1 _ e2
        subst e2
        have hgT : T < g := by have := SA.out; omega
        exact ⟨g, e1, hgT, ⟨_, _, (hfar g (by omega)).trans hg, h3⟩, fun i hi => by simp at hi, fun z hz => by cases hz⟩)
    have KAG := Lib.hid (show ∀ y, (∃ x, ka = some ⟨y, x, none⟩) → T < y by
      rintro y ⟨x, e⟩
      rcases HVK.out.2 with ⟨e1, e0⟩ | ⟨g, cap, cur, e1, hb, hg, h1, h2, h3, _⟩
      · injection e1 with e2
        rw [e] at e2; cases e2
      · injection e1 with e2
        rw [e] at e2
        injection e2 with e2
        injection e2 with e2
        have := SA.out
        omega)
    clear hfar HTI HTA
    go_upto_region 5 with (fail)
    generalize w4.setCell ⟨T, 3, none⟩ (.slice ka u.ks.length kc) = w5 at *
    clear t3 f3 HVK KC hTw
    have A5 := Lib.hid (A.out.grow G5.out)
    have HPT := Lib.hid (show P ≠ T ∧ P < w5.heap.size ∧ T < w5.heap.size from ⟨by have := HP2.out.lt; have := HTE.out; omega, HP5.out.lt, (Array.getElem?_eq_some_iff.1 HTJ.out).1⟩)
    have HTM := Lib.hid (show T ≠ M by have := HML.out; have := HTW.out; omega)
    obtain ⟨Z', hZ'⟩ : ∃ Z' : Nat → Prop, Z' = fun y => Z y ∨ ∃ x, ka = some ⟨y, x, none⟩ := ⟨_, rfl⟩
    have HZ' := Lib.hid hZ'
    have I5 := Lib.hid (show InsI w5 Z' BM BG M ab ao a from (II.out.ext (Z' := Z') (fun y hy hz => by
      rw [hZ'] at hz
      rcases hz with hz | hz
      · exact hz
      · have := KAG.out y hz; have := HTW.out; omega)).chg (Chg.of_gw G5.out Z'))
    clear HTE SA S34 hZ'
    obtain ⟨p0, p1, p2, p3⟩ := A5.out.c
    go_wp2_with fail
    clear p0 p1 p2 p3
    go_loopw [48] (fun i wr => ∃ us : List LK, i = .int .i64 us.length ∧ us.length ≤ u.ks.length ∧ us.map LK.co = (copus u.k 0 u.co.ks a.co bd).take us.length ∧ wr.heap[T]? = some (.cells #[.int .i64 u.k, .int .i64 u.v, .slice u.da u.ds.length u.dc, .slice ka u.ks.length kc] 30 (0, 0)) ∧ BoxP wr P bd lv ∧ InsI wr Z' BM BG M ab ao a ∧ (u.ks.length ≠ 0 → ∃ g, ka = some ⟨g, 0, none⟩ ∧ T < g ∧ RowS wr g kc us) ∧ (∀ x ∈ us, ∀ y ∈ x.bl, ¬ Z' y) ∧ Chg w wr (fun y => y = M)) (fun i _ => u.ks.length - (intOf i).toNat)
    case atStart => exact ⟨[], rfl, Nat.zero_le _, rfl, HTJ.out, HP5.out, I5.out, HG0.out, (fun x hx => by cases hx), Chg.of_gw G5.out _⟩
    case round =>
      obtain ⟨us, rfl, hle, hty, hT, hP, hIr, hF, hbl, hg⟩ := hrel
      have HTY := Lib.hid hty
      have HT := Lib.hid hT
      have HP := Lib.hid hP
      have IR := Lib.hid hIr
      have HBS := Lib.hid hbl
      have HG := Lib.hid hg
      have A6 := Lib.hid (A.out.chg hg HBM.out HBLM.out)
      have t3 : wr.cell? ⟨T, 3, none⟩ = some (.slice ka u.ks.length kc) := cell_of_row _ _ 3 _ _ _ hT
      by_cases hlt : us.length < u.ks.length
      · obtain ⟨g, rfl, hCg, hfill⟩ := hF (by omega)
        have HF := Lib.hid hfill
        obtain ⟨p0, p1, p2, p3⟩ := A6.out.c
        obtain ⟨c0, c1⟩ := hP.c
        obtain ⟨bk, ok, ha, hkid⟩ := coAt.kid A6.out.2.kids us.length hlt
        have KB := Lib.hid (fun y (hy : y ∈ u.ks[us.length].bl) => kid_bl ha us.length hlt hy)
        have KBK := Lib.hid (show bk ∈ u.bl by
          rw [LK.bl_eq, ha]
          refine List.mem_append.2 (.inr ?_)
          rw [nb_ne (fun e => by rw [e] at hlt; simp at hlt)]
          exact List.mem_cons_self ..)
        rw [ha] at p3
        have hdk := dp_kid (u := u) us.length hlt
        have hb1 := bndK_le u.k us.length
        have hx1 : bxK u.k ≤ 1 := by unfold bxK; split <;> omega
        have KO' := impl_ofKid u wr.drew b o us.length bd lv (by omega) (by omega) (by omega) (A6.out.grow (Gw.refl wr).drew)
        obtain ⟨D, hD⟩ : ∃ D, D = bd + bndK u.k us.length := ⟨_, rfl⟩
        obtain ⟨Lv, hLv⟩ : ∃ Lv, Lv = lv + bxK u.k := ⟨_, rfl⟩
        rw [← hD, ← hLv] at KO'
        have KO := Lib.hid KO'
        have HD := Lib.hid hD
        have HGL := Lib.hid (show g < wr.heap.size by obtain ⟨⟨cs, e, h1, _⟩, _⟩ := hfill; exact (Array.getElem?_eq_some_iff.1 h1).1)
        have HUB := Lib.hid (show ∀ y ∈ u.bl, y < w.heap.size from fun y hy => ok_bl_lt u w A.out.2 y hy)
        have ZN := Lib.hid (show ∀ y ∈ u.bl, ¬ Z' y from fun y hy e => by
          rw [HZ'.out] at e
          rcases e with e | e
          · exact ZU.out.2 y hy e
          · have := KAG.out y e; have := HUB.out y hy; have := HTW.out; omega)
        have ZB' := Lib.hid (show ∀ y, Z' y → y < wr.heap.size from fun y e => by
          rw [HZ'.out] at e
          rcases e with e | ⟨x, e⟩
          · have := ZB.out y e; have := HG.out.2.2.2.1; omega
          · injection e with e
            injection e with e
            subst e
            exact HGL.out)
        have ZG := Lib.hid (show Z' g by rw [HZ'.out]; exact .inr ⟨0, rfl⟩)
        have IHH := Lib.hid (show ∀ w2, Gw wr w2 → Calls Tryd.prog 108 #[.pointer (some ⟨bk, ok + us.length * 4, none⟩), .agg #[.int .i64 D, .int .i64 Lv], .func (.func 112) #[] #[.pointer (some ⟨BM, 0, none⟩), .pointer (some ⟨BG, 0, none⟩)]] w2 (VP w2 Z' BM BG M ab ao a (u.ks[us.length].co.pu a.co D)) from fun w2 g2 =>
          ih u.ks[us.length] (List.getElem_mem hlt) w2 Z' bk (ok + us.length * 4) D Lv BM BG M ab ao a (hkid.grow g2) (IR.out.grow g2) (fun y hy => Nat.lt_of_lt_of_le (ZB'.out y hy) g2.size) (ZN.out bk KBK.out) (fun y hy => ZN.out y (KB.out y hy)) (all_kid HOK.out us.length hlt) HKA.out (by omega) (by omega))
        have HTL := Lib.hid (show T < wr.heap.size from (Array.getElem?_eq_some_iff.1 hT).1)
        have HGT := Lib.hid (show g ≠ T by omega)
        have HGB := Lib.hid (show g ≠ b by have := HBW.out; have := HTW.out; omega)
        have HGP := Lib.hid (show g ≠ P by have := HPE.out; have := HTW.out; omega)
        have HGM := Lib.hid (show g ≠ M by have := HML.out; have := HTW.out; omega)
        have HUM := Lib.hid (show ∀ z ∈ us, ∀ y ∈ z.bl, y ≠ M from fun z hz y hy => by
          obtain ⟨i, hi, rfl⟩ := List.mem_iff_getElem.1 hz
          obtain ⟨p, v, hv⟩ := ok_bl_cell _ wr (hfill.2.1 i hi).2 y hy
          exact hIr.2.2.1.ne hv)
        have HCG := Lib.hid hCg
        have hlc : us.length < kc := by have := KC9.out.2; omega
        have q0 : (0 : Int) ≤ us.length := by omega
        have q1' : (us.length : Int) < u.ks.length := by omega
        clear hty hT hP hIr hF hbl hg hfill hCg ha hkid p0 p1 p2 KO' hD hLv hdk hb1 hx1
        go_upto_region 8 with (fail)
        refine wp_region_held_drew (S := fun W => W.cell? ⟨T, 3, none⟩ = some (.slice (some ⟨g, 0, none⟩) u.ks.length kc) ∧ W.cell? ⟨b, o + 3, none⟩ = some (.slice (some ⟨bk, ok, none⟩) u.ks.length u.cap) ∧ W.cell? ⟨P, 0, none⟩ = some (.int .i64 bd) ∧ W.cell? ⟨P, 1, none⟩ = some (.int .i64 lv)) (by kernel_rfl) ?_ (fun hHeld => ?_)
        · exact ⟨t3, p3, c0, c1⟩
        refine wpAnyH_take (i := 0) (oi := { dst := some 51, op := _, type := _, pos := _, after := _, guard := _ }) (v := .pointer (some ⟨T, 3, none⟩)) rfl (by kernel_rfl) (by kernel_rfl) (by kernel_rfl) (fun _ _ _ h => h) (Or.inl ⟨by rfl, ?_⟩) (by assumption) ?_
        · intro w hSw; obtain ⟨t3, p3, c0, c1⟩ := hSw; go_simp
        try simp only [Act.put, List.setIfInBounds_toArray, List.set_cons_zero, List.set_cons_succ]
        refine wpAnyH_take (i := 1) (oi := { dst := some 52, op := _, type := _, pos := _, after := _, guard := _ }) (v := .slice (some ⟨g, 0, none⟩) u.ks.length kc) rfl (by kernel_rfl) (by kernel_rfl) (by kernel_rfl) (fun _ _ _ h => h) (Or.inl ⟨by rfl, ?_⟩) (by assumption) ?_
        · intro w hSw; obtain ⟨t3, p3, c0, c1⟩ := hSw; go_simp
        try simp only [Act.put, List.setIfInBounds_toArray, List.set_cons_zero, List.set_cons_succ]
        refine wpAnyH_take (i := 2) (oi := { dst := some 53, op := _, type := _, pos := _, after := _, guard := _ }) (v := .int .i64 us.length) rfl (by kernel_rfl) (by kernel_rfl) (by kernel_rfl) (fun _ _ _ h => h) (Or.inl ⟨by rfl, ?_⟩) (by assumption) ?_
        · intro w hSw; obtain ⟨t3, p3, c0, c1⟩ := hSw; go_simp
        try simp only [Act.put, List.setIfInBounds_toArray, List.set_cons_zero, List.set_cons_succ]
        refine wpAnyH_take (i := 3) (oi := { dst := some 54, op := _, type := _, pos := _, after := _, guard := _ }) (v := .pointer (some ⟨b, o, none⟩)) rfl (by kernel_rfl) (by kernel_rfl) (by kernel_rfl) (fun _ _ _ h => h) (Or.inl ⟨by rfl, ?_⟩) (by assumption) ?_
        · intro w hSw; obtain ⟨t3, p3, c0, c1⟩ := hSw; go_simp
        try simp only [Act.put, List.setIfInBounds_toArray, List.set_cons_zero, List.set_cons_succ]
        refine wpAnyH_take (i := 4) (oi := { dst := some 55, op := _, type := _, pos := _, after := _, guard := _ }) (v := .pointer (some ⟨b, o, none⟩)) rfl (by kernel_rfl) (by kernel_rfl) (by kernel_rfl) (fun _ _ _ h => h) (Or.inl ⟨by rfl, ?_⟩) (by assumption) ?_
        · intro w hSw; obtain ⟨t3, p3, c0, c1⟩ := hSw; go_simp
        try simp only [Act.put, List.setIfInBounds_toArray, List.set_cons_zero, List.set_cons_succ]
        refine wpAnyH_take (i := 5) (oi := { dst := some 56, op := _, type := _, pos := _, after := _, guard := _ }) (v := .pointer (some ⟨b, o + 3, none⟩)) rfl (by kernel_rfl) (by kernel_rfl) (by kernel_rfl) (fun _ _ _ h => h) (Or.inl ⟨by rfl, ?_⟩) (by assumption) ?_
        · intro w hSw; obtain ⟨t3, p3, c0, c1⟩ := hSw; go_simp
        try simp only [Act.put, List.setIfInBounds_toArray, List.set_cons_zero, List.set_cons_succ]
        refine wpAnyH_take (i := 6) (oi := { dst := some 57, op := _, type := _, pos := _, after := _, guard := _ }) (v := .slice (some ⟨bk, ok, none⟩) u.ks.length u.cap) rfl (by kernel_rfl) (by kernel_rfl) (by kernel_rfl) (fun _ _ _ h => h) (Or.inl ⟨by rfl, ?_⟩) (by assumption) ?_
        · intro w hSw; obtain ⟨t3, p3, c0, c1⟩ := hSw; go_simp
        try simp only [Act.put, List.setIfInBounds_toArray, List.set_cons_zero, List.set_cons_succ]
        refine wpAnyH_take (i := 7) (oi := { dst := some 58, op := _, type := _, pos := _, after := _, guard := _ }) (v := .int .i64 us.length) rfl (by kernel_rfl) (by kernel_rfl) (by kernel_rfl) (fun _ _ _ h => h) (Or.inl ⟨by rfl, ?_⟩) (by assumption) ?_
        · intro w hSw; obtain ⟨t3, p3, c0, c1⟩ := hSw; go_simp
        try simp only [Act.put, List.setIfInBounds_toArray, List.set_cons_zero, List.set_cons_succ]
        refine wpAnyH_take (i := 8) (oi := { dst := some 59, op := _, type := _, pos := _, after := _, guard := _ }) (v := .pointer (some ⟨bk, ok + us.length * 4, none⟩)) rfl (by kernel_rfl) (by kernel_rfl) (by kernel_rfl) (fun _ _ _ h => h) (Or.inl ⟨by rfl, ?_⟩) (by assumption) ?_
        · intro w hSw; obtain ⟨t3, p3, c0, c1⟩ := hSw; go_simp
        try simp only [Act.put, List.setIfInBounds_toArray, List.set_cons_zero, List.set_cons_succ]
        refine wpAnyH_take (i := 9) (oi := { dst := some 60, op := _, type := _, pos := _, after := _, guard := _ }) (v := .agg #[.int .i64 bd, .int .i64 lv]) rfl (by kernel_rfl) (by kernel_rfl) (by kernel_rfl) (fun _ _ _ h => h) (Or.inl ⟨by rfl, ?_⟩) (by assumption) ?_
        · intro w hSw; obtain ⟨t3, p3, c0, c1⟩ := hSw; go_simp
        try simp only [Act.put, List.setIfInBounds_toArray, List.set_cons_zero, List.set_cons_succ]
        refine wpAnyH_take (i := 10) (oi := { dst := some 61, op := _, type := _, pos := _, after := _, guard := _ }) (v := .pointer (some ⟨b, o, none⟩)) rfl (by kernel_rfl) (by kernel_rfl) (by kernel_rfl) (fun _ _ _ h => h) (Or.inl ⟨by rfl, ?_⟩) (by assumption) ?_
        · intro w hSw; obtain ⟨t3, p3, c0, c1⟩ := hSw; go_simp
        try simp only [Act.put, List.setIfInBounds_toArray, List.set_cons_zero, List.set_cons_succ]
        refine wpAnyH_take (i := 11) (oi := { dst := some 62, op := _, type := _, pos := _, after := _, guard := _ }) (v := .int .i64 us.length) rfl (by kernel_rfl) (by kernel_rfl) (by kernel_rfl) (fun _ _ _ h => h) (Or.inl ⟨by rfl, ?_⟩) (by assumption) ?_
        · intro w hSw; obtain ⟨t3, p3, c0, c1⟩ := hSw; go_simp
        try simp only [Act.put, List.setIfInBounds_toArray, List.set_cons_zero, List.set_cons_succ]
        refine wpAnyH_take (i := 13) (oi := { dst := some 64, op := _, type := _, pos := _, after := _, guard := _ }) (v := .func (.func 112) #[] #[.pointer (some ⟨BM, 0, none⟩), .pointer (some ⟨BG, 0, none⟩)]) rfl (by kernel_rfl) (by kernel_rfl) (by kernel_rfl) (fun _ _ _ h => h) (Or.inl ⟨by rfl, ?_⟩) (by assumption) ?_
        · intro w hSw; obtain ⟨t3, p3, c0, c1⟩ := hSw; go_simp
        try simp only [Act.put, List.setIfInBounds_toArray, List.set_cons_zero, List.set_cons_succ]
        refine wpAnyH_ready (rs := [12]) (by kernel_rfl) (by simp) ?_
        refine AllReadyH.cons (o := { dst := some 63, op := _, type := _, pos := _, after := _, guard := _ }) rfl (fun K hK => ?_) AllReadyH.nil
        go_simp
        go_at_call 121
        refine KO.out.mono ?_
        rintro e w2 ⟨rfl, g2⟩
        have g2' : Gw wr w2 := gw_drewL g2
        have kt := g2'.cell t3 (cell_lt t3)
        have kp := g2'.cell p3 (cell_lt p3)
        have k0 := g2'.cell c0 (cell_lt c0)
        have k1 := g2'.cell c1 (cell_lt c1)
        go_wp2_with fail
        refine hK.out _ _ ⟨kt, kp, k0, k1⟩ (fun hHeld => ?_)
        clear hK K
        try simp only [Act.put, List.setIfInBounds_toArray, List.set_cons_zero, List.set_cons_succ]
        have IH := Lib.hid (IHH.out w2 g2')
        refine wpAnyH_ready (rs := [14]) (by kernel_rfl) (by simp) ?_
        refine AllReadyH.cons (o := { dst := some 65, op := _, type := _, pos := _, after := _, guard := _ }) rfl (fun K hK => ?_) AllReadyH.nil
        go_simp
        go_at_call 108
        refine IH.out.mono ?_
        rintro e w3 ⟨xb, xo, x, rfl, hx, hxc, hzb, hzy, hI, hc3⟩
        have g3 : Chg wr w3 (fun y => y = M) := (Chg.of_gw g2' (fun y => y = M)).trans hc3 (fun _ _ e => e)
        have HXC := Lib.hid hxc
        have HZY := Lib.hid hzy
        have HIX := Lib.hid hI
        have OX := Lib.hid hx.2
        obtain ⟨e0, e1, e2, e3⟩ := hx.c
        have kt := g3.cell t3 HTM.out
        have kp := g3.cell p3 HBM.out
        have k0 := g3.cell c0 HPM.out
        have k1 := g3.cell c1 HPM.out
        go_wp2_with fail
        refine hK.out _ _ ⟨kt, kp, k0, k1⟩ (fun hHeld => ?_)
        clear hK K hx hxc hzb hzy hI hc3
        try simp only [Act.put, List.setIfInBounds_toArray, List.set_cons_zero, List.set_cons_succ]
        refine wpAnyH_take (i := 15) (oi := { dst := some 66, op := _, type := _, pos := _, after := _, guard := _ }) (v := .pointer (some ⟨xb, xo, none⟩)) rfl (by kernel_rfl) (by kernel_rfl) (by kernel_rfl) (fun _ _ _ h => h) (Or.inl ⟨by rfl, ?_⟩) (by assumption) ?_
        · intro w hSw; obtain ⟨t3, p3, c0, c1⟩ := hSw; go_simp
        try simp only [Act.put, List.setIfInBounds_toArray, List.set_cons_zero, List.set_cons_succ]
        refine wpAnyH_ready (rs := [16]) (by kernel_rfl) (by simp) ?_
        refine AllReadyH.cons (o := { dst := some 67, op := _, type := _, pos := _, after := _, guard := _ }) rfl (fun K hK => ?_) AllReadyH.nil
        go_simp
        refine hK _ _ ⟨kt, kp, k0, k1⟩ (fun hHeld => ?_)
        clear hK K
        try simp only [Act.put, List.setIfInBounds_toArray, List.set_cons_zero, List.set_cons_succ]
        refine wpAnyH_take (i := 17) (oi := { dst := some 68, op := _, type := _, pos := _, after := _, guard := _ }) (v := .pointer (some ⟨g, us.length * 4, none⟩)) rfl (by kernel_rfl) (by kernel_rfl) (by kernel_rfl) (fun _ _ _ h => h) (Or.inl ⟨by rfl, ?_⟩) (by assumption) ?_
        · intro w hSw; obtain ⟨t3, p3, c0, c1⟩ := hSw; go_simp
        try simp only [Act.put, List.setIfInBounds_toArray, List.set_cons_zero, List.set_cons_succ]
        have hF1 := HF.out.chg g3 HGM.out HUM.out
        obtain ⟨⟨v0, x0⟩, y0⟩ := hF1.room hlc 0 (by omega)
        obtain ⟨⟨v1, x1⟩, y1⟩ := hF1.room hlc 1 (by omega)
        obtain ⟨⟨v2, x2⟩, y2⟩ := hF1.room hlc 2 (by omega)
        obtain ⟨⟨v3, x3⟩, y3⟩ := hF1.room hlc 3 (by omega)
        rw [Nat.add_zero] at x0 y0
        have HF1 := Lib.hid hF1
        clear hF1
        refine wpAnyH_ready (rs := [18]) (by kernel_rfl) (by simp) ?_
        refine AllReadyH.cons (o := { dst := none, op := _, type := _, pos := _, after := _, guard := _ }) rfl (fun K hK => ?_) AllReadyH.nil
        go_simp
        refine hK _ _ ⟨(far4 (fun e => HGT.out e.symm)).trans kt, (far4 (fun e => HGB.out e.symm)).trans kp, (far4 (fun e => HGP.out e.symm)).trans k0, (far4 (fun e => HGP.out e.symm)).trans k1⟩ (fun hHeld => ?_)
        clear hK K
        try simp only [Act.put, List.setIfInBounds_toArray, List.set_cons_zero, List.set_cons_succ]
        refine wpAnyH_done (by kernel_rfl) ?_ _
        go_wp2_with fail
        go_roundw
        case rel =>
          have hl1 : us.length + 1 = (us ++ [x]).length := by simp
          have hwg : w.heap.size ≤ g := by have := HTW.out; have := HCG.out; omega
          have hfar : ∀ y, y ≠ g → ∀ a c d e : Value, ((((w3.setCell ⟨g, us.length * 4, none⟩ a).setCell ⟨g, us.length * 4 + 1, none⟩ c).setCell ⟨g, us.length * 4 + 2, none⟩ d).setCell ⟨g, us.length * 4 + 3, none⟩ e).heap[y]? = w3.heap[y]? := fun y hy a c d e => by
            rw [Below.heap_setCell _ _ _ _ hy, Below.heap_setCell _ _ _ _ hy, Below.heap_setCell _ _ _ _ hy, Below.heap_setCell _ _ _ _ hy]
          have hgx : g ∉ x.bl := fun e => HZY.out g e ZG.out
          have hw3 : w.heap.size ≤ w3.heap.size := Nat.le_trans HG.out.2.2.2.1 g3.2.2.2.1
          refine ⟨us ++ [x], by rw [← hl1]; rfl, by simp; omega, ?_, ?_, ?_, ?_, fun _ => ⟨g, rfl, HCG.out, ?_⟩, ?_, ?_⟩
          · rw [← hl1, List.map_append, HTY.out, List.take_add_one, pus_get u.k a.co bd u.co.ks 0 us.length (by rw [u.co_len]; exact hlt), u.co_kid us.length hlt]
            show _ ++ [x.co] = _
            rw [HXC.out, HD.out, Nat.zero_add, show ((bd + bndK u.k us.length : Nat) : Int) = (bd : Int) + (bndK u.k us.length : Nat) by omega]
            rfl
          · exact (hfar T (fun e => HGT.out e.symm) _ _ _ _).trans ((g3.2.2.2.2 _ HTL.out HTM.out).trans HT.out)
          · exact (hfar P (fun e => HGP.out e.symm) _ _ _ _).trans ((g3.2.2.2.2 _ HP.out.lt HPM.out).trans HP.out)
          · exact HIX.out.chg ((((Chg.of_gw (Gw.refl w3) Z').set _ _ (fun _ => ZG.out)).set _ _ (fun _ => ZG.out)).set _ _ (fun _ => ZG.out) |>.set _ _ (fun _ => ZG.out))
          · exact HF1.out.put hlc OX.out hgx
          · intro z hz y hy
            rcases List.mem_append.1 hz with hz | hz
            · exact HBS.out z hz y hy
            · obtain rfl : z = x := by simpa using hz
              exact HZY.out y hy
          · exact ((((HG.out.trans g3 (fun _ _ e => e)).set _ _ (fun e => absurd e (by simp; omega))).set _ _ (fun e => absurd e (by simp; omega))).set _ _ (fun e => absurd e (by simp; omega))).set _ _ (fun e => absurd e (by simp; omega))
        case measure => simp [intOf]; omega
      · have hall : us.length = u.ks.length := by omega
        have OKX : coSl wr ka kc us := by
          by_cases hn0 : u.ks.length = 0
          · obtain rfl : us = [] := List.eq_nil_of_length_eq_zero (by omega)
            exact ⟨Nat.zero_le _, KC9.out.1, .inl rfl⟩
          · obtain ⟨g, rfl, hCg, hf⟩ := hF hn0
            exact ⟨by have := KC9.out.2; omega, KC9.out.1, .inr ⟨g, 0, rfl, hf.2.1⟩⟩
        have OA := A6.out.2
        obtain ⟨⟨ok1, ok2, ok3⟩, _⟩ := (LK.ok_iff _).1 OA
        have OX : (LK.mk u.k u.v u.da u.dc u.ds ka kc us).Ok wr := (LK.ok_iff _).2 ⟨⟨ok1, ok2, ok3⟩, OKX⟩
        have hT' := hT
        rw [← hall] at hT'
        have FIN := Lib.hid (show coAt wr T 0 (LK.mk u.k u.v u.da u.dc u.ds ka kc us) from ⟨fun j v hv => by
          rw [cell_of_row _ _ _ _ _ _ hT', Nat.zero_add]
          have : (#[.int .i64 u.k, .int .i64 u.v, .slice u.da u.ds.length u.dc, .slice ka us.length kc] : Array Value).toList = coE (LK.mk u.k u.v u.da u.dc u.ds ka kc us) := rfl
          rw [← Array.getElem?_toList, this]
          exact hv, OX⟩)
        have CO := Lib.hid (show (LK.mk u.k u.v u.da u.dc u.ds ka kc us).co = u.co.pu a.co bd by
          rw [LK.co_eq, VE.out]
          show Co.mk u.k u.v u.ds (us.map LK.co) = _
          rw [HTY.out, hall, List.take_of_length_le (by rw [pus_len, u.co_len]; exact Nat.le_refl _)])
        have BLS := Lib.hid (show ∀ y ∈ (LK.mk u.k u.v u.da u.dc u.ds ka kc us).bl, ¬ Z y from fun y hy e => by
          rw [LK.bl_eq] at hy
          rcases List.mem_append.1 hy with hy | hy
          · exact ZU.out.2 y (by rw [LK.bl_eq]; exact List.mem_append.2 (.inl hy)) e
          · have hy' : y ∈ nbl LK.bl ka us := hy
            by_cases hne : us = []
            · subst hne; simp [nbl] at hy'
            · obtain ⟨g, rfl, hCg, hf⟩ := hF (fun e => hne (List.eq_nil_of_length_eq_zero (by omega)))
              rw [nb_ne hne] at hy'
              rcases List.mem_cons.1 hy' with rfl | hy'
              · have := ZB.out _ e; have := HTW.out; omega
              · obtain ⟨z, hz, hzy⟩ := List.mem_flatMap.1 hy'
                exact HBS.out z hz y hzy (by rw [HZ'.out]; exact .inl e))
        have IF := Lib.hid (show InsI wr Z BM BG M ab ao a from IR.out.ext (fun y _ e => by rw [HZ'.out]; exact .inl e))
        have ZT := Lib.hid (show ¬ Z T from fun e => by have := ZB.out _ e; have := HTW.out; omega)
        have q1' : ¬ ((us.length : Int) < u.ks.length) := by omega
        clear hty hT hP hIr hF hbl hg OKX OA ok1 ok2 ok3 OX hT' t3 hle hlt
        go_wp2_with fail
        go_ret
        exact ⟨T, 0, _, rfl, FIN.out, CO.out, ZT.out, BLS.out, IF.out, HG.out⟩)

theorem in_all (u : LK) : KIn u := by
  refine LK.ind (P := KIn) (fun k v da dc ds a c ks ih => ?_) u
  exact in_of (.mk k v da dc ds a c ks) ih

/-- What instantiated gives: a node somewhere, of blocks of the two core terms and of new ones. -/
def InP (w : World) (u a : LK) (t : Co) (e : Ending) (w' : World) : Prop := ∃ (b o : Nat) (x : LK), e = .returned (.pointer (some ⟨b, o, none⟩)) ∧ coAt w' b o x ∧ x.co = t ∧ Gw w w'

set_option maxRecDepth 100000 in
theorem impl_instantiated (u a : LK) (w : World) (b o ab ao : Nat) (h : coAt w b o u) (ha : coAt w ab ao a) (hu : okC u.co = true) (hka : okC a.co = true) : Calls Tryd.prog 80 #[.pointer (some ⟨b, o, none⟩), .pointer (some ⟨ab, ao, none⟩)] w (InP w u a (u.co.pu a.co 0)) := by
  obtain ⟨wA, hwA⟩ : ∃ wA, wA = ((w.alloc (.cells #[.pointer (some ⟨ab, ao, none⟩)] 61)).alloc (.map #[] 0)).alloc (.cells #[.map (some (w.heap.size + 1))] 113) := ⟨_, rfl⟩
  have gA : Gw w wA := by rw [hwA]; exact (((Gw.refl w).alloc _).alloc _).alloc _
  have b1 : wA.heap[w.heap.size]? = some (.cells #[.pointer (some ⟨ab, ao, none⟩)] 61 (0, 0)) := by
    rw [hwA]
    exact ((((Gw.refl (w.alloc (.cells #[.pointer (some ⟨ab, ao, none⟩)] 61))).alloc (.map #[] 0)).alloc _).block w.heap.size (by simp)).trans (heap_alloc_new w _)
  have b2 : wA.heap[w.heap.size + 1]? = some (.map #[] 0) := by
    rw [hwA]
    have := heap_alloc_new (w.alloc (.cells #[.pointer (some ⟨ab, ao, none⟩)] 61)) (.map #[] 0)
    rw [World.size_alloc] at this
    exact (((Gw.refl _).alloc _).block (w.heap.size + 1) (by simp)).trans this
  have b3 : wA.heap[w.heap.size + 2]? = some (.cells #[.map (some (w.heap.size + 1))] 113 (0, 0)) := by
    rw [hwA]
    have := heap_alloc_new ((w.alloc (.cells #[.pointer (some ⟨ab, ao, none⟩)] 61)).alloc (.map #[] 0)) (.cells #[.map (some (w.heap.size + 1))] 113)
    rw [World.size_alloc, World.size_alloc] at this
    exact this
  have HI : InsI wA (fun _ => False) (w.heap.size + 2) w.heap.size (w.heap.size + 1) ab ao a := ⟨cell_of_row _ _ 0 _ _ _ b3, cell_of_row _ _ 0 _ _ _ b1, ⟨⟨#[], 0, b2, by simp⟩, fun e => e⟩, ha.grow gA, fun e => e, fun e => e, fun e => e, fun _ _ e => e⟩
  have gd := okC_good hu
  have K := in_all u wA (fun _ => False) b o 0 0 (w.heap.size + 2) w.heap.size (w.heap.size + 1) ab ao a (h.grow gA) HI (fun _ e => e.elim) (fun e => e) (fun _ _ e => e) gd.1 hka (by have := gd.2.1; omega) (by have := gd.2.1; omega)
  have KK := Lib.hid K
  have GA := Lib.hid gA
  have HWA := Lib.hid hwA
  clear h ha hu hka gA b1 b2 b3 HI gd K hwA
  go_enter Tryd.func80, Tryd.ntmps80
  have hmm : ∀ W : World, (Instr.makeMap 113 none).run Tryd.prog W = .ok (.map (some W.heap.size)) (W.alloc (.map #[] 0)) := fun W => by kernel_rfl
  go_upto_region 2 with (fail)
  clear hmm
  rw [← HWA.out]
  go_wp2_with fail
  refine KK.out.mono ?_
  rintro e w2 ⟨xb, xo, x, rfl, hx, hxc, _, _, _, hc⟩
  have F := Lib.hid (show InP w u a (u.co.pu a.co 0) (.returned (.pointer (some ⟨xb, xo, none⟩))) w2 from ⟨xb, xo, x, rfl, hx, hxc, Below.trans GA.out (hc.gw GA.out.size (fun b hb e => by omega))⟩)
  clear hx hxc hc KK
  go_wp2_with fail
  go_ret
  exact F.out

end Go.Proofs.YtfbgkbgoooepmaaDoor.Con
