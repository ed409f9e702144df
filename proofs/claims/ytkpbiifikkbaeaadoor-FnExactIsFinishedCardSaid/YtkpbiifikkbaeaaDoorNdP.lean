/-
  Contracts of the program's isValue, isEmptyClosure, isClosure and isFrame. Condition: all lies in memory, and the table of forms reads as the program's text lays it.
-/
import Derived.Test.YtkpbiifikkbaeaaDoorNdV
import Derived.Test.YtkpbiifikkbaeaaDoorCoCl
namespace Go.Proofs.YtkpbiifikkbaeaaDoor.Con
open Go.RowKit
set_option linter.unusedVariables false
attribute [local go_sem] Oper.semAt_some

set_option maxHeartbeats 2000000 in
theorem impl_nc (c : LCl) (w : World) (bc oc : Nat) (hx : clAt w bc oc c) : Calls Tryd.prog 72 #[.pointer (some ⟨bc, oc, none⟩)] w (BoolGw (nocC c.pu) w) := by
  have p0 := hx.1 0 _ rfl
  have p1 := hx.1 1 _ rfl
  have p2 := hx.1 2 _ rfl
  have p3 := hx.1 3 _ rfl
  have p4 := hx.1 4 _ rfl
  rw [Nat.add_zero] at p0
  have hk : c.pu.1.k = c.t.k := LK.co_k _
  have hv : c.pu.1.v = c.t.v := LK.co_v _
  have hd : c.pu.1.ds.length = c.t.ds.length := by show c.t.co.ds.length = _; rw [LK.co_ds]
  have hs : c.pu.1.ks.length = c.t.ks.length := c.t.co_len
  have NC : nocC c.pu = ((c.t.k == 0) && ((c.t.v == 0) && (decide (c.t.ds.length = 0) && (decide (c.t.ks.length = 0) && decide (c.e.length = 0))))) := by
    unfold nocC
    rw [hk, hv, hd, hs]
    rfl
  clear hx hk hv hd hs
  by_cases h0 : c.t.k = 0
  rotate_left
  · have z0 : (c.t.k == 0) = false := by simpa using h0
    have F := Lib.hid (show nocC c.pu = false by rw [NC]; simp [h0])
    clear NC h0
    go_enter Tryd.func72, Tryd.ntmps72
    go_wp2_with (go_quiet (fail))
    go_ret
    exact ⟨ret_b F.out.symm, by first | exact (Gw.refl w).drewN _ | exact Gw.refl w⟩
  have z0 : (c.t.k == 0) = true := by simpa using h0
  by_cases h1 : c.t.v = 0
  rotate_left
  · have z1 : (c.t.v == 0) = false := by simpa using h1
    have F := Lib.hid (show nocC c.pu = false by rw [NC]; simp [h1])
    clear NC h1 h0
    go_enter Tryd.func72, Tryd.ntmps72
    go_wp2_with (go_quiet (fail))
    go_ret
    exact ⟨ret_b F.out.symm, by first | exact (Gw.refl w).drewN _ | exact Gw.refl w⟩
  have z1 : (c.t.v == 0) = true := by simpa using h1
  by_cases h2 : c.t.ds.length = 0
  rotate_left
  · have z2 : ((c.t.ds.length : Int) == 0) = false := beq_eq_false_iff_ne.2 (by omega)
    have F := Lib.hid (show nocC c.pu = false by rw [NC]; simp [h2])
    clear NC h2 h0 h1
    go_enter Tryd.func72, Tryd.ntmps72
    go_wp2_with (go_quiet (fail))
    go_ret
    exact ⟨ret_b F.out.symm, by first | exact (Gw.refl w).drewN _ | exact Gw.refl w⟩
  have z2 : ((c.t.ds.length : Int) == 0) = true := beq_iff_eq.2 (by omega)
  by_cases h3 : c.t.ks.length = 0
  rotate_left
  · have z3 : ((c.t.ks.length : Int) == 0) = false := beq_eq_false_iff_ne.2 (by omega)
    have F := Lib.hid (show nocC c.pu = false by rw [NC]; simp [h3])
    clear NC h3 h0 h1 h2
    go_enter Tryd.func72, Tryd.ntmps72
    go_wp2_with (go_quiet (fail))
    go_ret
    exact ⟨ret_b F.out.symm, by first | exact (Gw.refl w).drewN _ | exact Gw.refl w⟩
  have z3 : ((c.t.ks.length : Int) == 0) = true := beq_iff_eq.2 (by omega)
  by_cases h4 : c.e.length = 0
  rotate_left
  · have z4 : ((c.e.length : Int) == 0) = false := beq_eq_false_iff_ne.2 (by omega)
    have F := Lib.hid (show nocC c.pu = false by rw [NC]; simp [h4])
    clear NC h4 h0 h1 h2 h3
    go_enter Tryd.func72, Tryd.ntmps72
    go_wp2_with (go_quiet (fail))
    go_ret
    exact ⟨ret_b F.out.symm, by first | exact (Gw.refl w).drewN _ | exact Gw.refl w⟩
  have z4 : ((c.e.length : Int) == 0) = true := beq_iff_eq.2 (by omega)
  have F := Lib.hid (show nocC c.pu = true by rw [NC]; simp [h0, h1, h2, h3, h4])
  clear NC h0 h1 h2 h3 h4
  go_enter Tryd.func72, Tryd.ntmps72
  go_wp2_with (go_quiet (fail))
  go_ret
  exact ⟨ret_b F.out.symm, by first | exact (Gw.refl w).drewN _ | exact Gw.refl w⟩

theorem impl_isop2 (v : Int) (w : World) : Calls Tryd.prog 73 #[.int .i64 v] w fun e w' => e = .returned (.bool (inV v 1 6)) ∧ w = w' := by
  by_cases h1 : 1 ≤ v
  · by_cases h2 : v ≤ 6
    · have F := Lib.hid (show inV v 1 6 = true from decide_eq_true ⟨h1, h2⟩)
      go_enter Tryd.func73, Tryd.ntmps73
      go_wp2_with fail
      go_ret
      exact ⟨ret_b F.out.symm, rfl⟩
    · have F := Lib.hid (show inV v 1 6 = false from decide_eq_false (fun h => h2 h.2))
      go_enter Tryd.func73, Tryd.ntmps73
      go_wp2_with fail
      go_ret
      exact ⟨ret_b F.out.symm, rfl⟩
  · have F := Lib.hid (show inV v 1 6 = false from decide_eq_false (fun h => h1 h.1))
    go_enter Tryd.func73, Tryd.ntmps73
    go_wp2_with fail
    go_ret
    exact ⟨ret_b F.out.symm, rfl⟩

/-- A list of the variables 0, 1 and so on. -/
def fvsC (ks : List LK) : Bool := (List.range ks.length).all fun i => ((ks.getD i default).k == 1) && ((ks.getD i default).v == (i : Int))
theorem fvs_false {ks : List LK} (j : Nat) (hj : j < ks.length) (h : ¬ (ks[j].k = 1 ∧ ks[j].v = j)) : fvsC ks = false := by
  unfold fvsC
  refine List.all_eq_false.2 ⟨j, by simp only [List.mem_range]; exact hj, ?_⟩
  have e : ks.getD j default = ks[j] := by rw [List.getD, List.getElem?_eq_getElem hj]; rfl
  simp only [e, Bool.and_eq_true, beq_iff_eq]
  exact h
theorem fvs_true {ks : List LK} (h : ∀ j (hj : j < ks.length), ks[j].k = 1 ∧ ks[j].v = j) : fvsC ks = true := by
  unfold fvsC
  refine List.all_eq_true.2 fun j hj => ?_
  rw [List.mem_range] at hj
  have e : ks.getD j default = ks[j] := by rw [List.getD, List.getElem?_eq_getElem hj]; rfl
  simp only [e, Bool.and_eq_true, beq_iff_eq]
  exact h j hj
theorem fld_fvs (c : LCl) : fldC c.pu = (decide (c.t.ks.length = c.e.length) && fvsC c.t.ks) := by
  by_cases hl : c.t.ks.length = c.e.length
  · rw [decide_eq_true hl, Bool.true_and]
    by_cases h : ∀ j (hj : j < c.t.ks.length), c.t.ks[j].k = 1 ∧ c.t.ks[j].v = j
    · rw [fld_true hl h, fvs_true h]
    · have : ∃ j, ∃ hj : j < c.t.ks.length, ¬ (c.t.ks[j].k = 1 ∧ c.t.ks[j].v = j) := by
        refine Classical.byContradiction fun hn => h fun j hj => Classical.byContradiction fun hc => hn ⟨j, hj, hc⟩
      obtain ⟨j, hj, hn⟩ := this
      rw [fld_false j hj hn, fvs_false j hj hn]
  · rw [fld_len hl, decide_eq_false hl, Bool.false_and]
theorem impl_afv (ks : List LK) (a : Option Addr) (cap : Nat) (w : World) (h : coSl w a cap ks) : Calls Tryd.prog 78 #[.slice a ks.length cap] w (BoolGw (fvsC ks) w) := by
  have hl : ks.length ≤ 9223372036854775807 := Nat.le_trans h.1 h.2.1
  have HS := Lib.hid h
  clear h
  go_enter Tryd.func78, Tryd.ntmps78
  go_wp2_with fail
  go_loopw [6] (fun i wr => ∃ j : Nat, j ≤ ks.length ∧ i = .int .i64 j ∧ Gw w wr ∧ ∀ x (hx : x < ks.length), x < j → ks[x].k = 1 ∧ ks[x].v = x) (fun i _ => ks.length - (intOf i).toNat)
  case atStart => exact ⟨0, by omega, rfl, Gw.refl _, fun i _ h => absurd h (by omega)⟩
  case round =>
    obtain ⟨j, hj, rfl, hg, hall⟩ := hrel
    have HALL := Lib.hid hall
    have HG := Lib.hid hg
    clear hall
    by_cases hlt : j < ks.length
    · obtain ⟨b, o, rfl, hkid⟩ := coAt.kid (gSl.grow coLen coGr HS.out hg) j hlt
      obtain ⟨c0, c1, c2, c3⟩ := hkid.c
      have s0 : (0 : Int) ≤ j := by omega
      have s1 : (j : Int) < ks.length := by omega
      obtain ⟨kk, hkk⟩ : ∃ kk, kk = ks[j] := ⟨_, rfl⟩
      rw [← hkk] at c0 c1 c2 c3
      have HK := Lib.hid hkk
      clear hg hkid hkk c2 c3
      by_cases e1 : kk.k = 1
      rotate_left
      · have z1 : (kk.k != 1) = true := by simpa using e1
        have F := Lib.hid (fvs_false j hlt (by rw [← HK.out]; exact fun e => e1 e.1))
        clear e1
        go_wp2_with (go_quiet (fail))
        go_ret
        exact ⟨ret_b F.out.symm, by first | exact HG.out.drewN _ | exact HG.out | exact HG.out.drew⟩
      have z1 : (kk.k != 1) = false := by simpa using e1
      have E1 := Lib.hid e1
      clear e1
      by_cases e2 : kk.v = j
      rotate_left
      · have z2 : (kk.v != (j : Int)) = true := by simpa using e2
        have F := Lib.hid (fvs_false j hlt (by rw [← HK.out]; exact fun e => e2 e.2))
        clear e2
        go_wp2_with (go_quiet (fail))
        go_ret
        exact ⟨ret_b F.out.symm, by first | exact HG.out.drewN _ | exact HG.out | exact HG.out.drew⟩
      have z2 : (kk.v != (j : Int)) = false := by simpa using e2
      have E2 := Lib.hid (show ks[j].k = 1 ∧ ks[j].v = j by rw [← HK.out]; exact ⟨E1.out, e2⟩)
      clear e2
      go_wp2_with (go_quiet (fail))
      go_roundw
      case rel =>
        refine ⟨j + 1, by omega, by go_num, by first | exact HG.out.drewN _ | exact HG.out | exact HG.out.drew, fun x hx hi => ?_⟩
        by_cases e : x = j
        · subst e; exact E2.out
        · exact HALL.out x hx (by omega)
      case measure => simp [intOf]; omega
    · obtain rfl : j = ks.length := by omega
      have F := Lib.hid (fvs_true (ks := ks) (fun x hx => HALL.out x hx hx))
      clear hg
      go_wp2_with fail
      go_ret
      exact ⟨ret_b F.out.symm, HG.out⟩

set_option maxRecDepth 100000 in
theorem impl_iv (c : LCl) (w : World) (bc oc : Nat) (hx : clAt w bc oc c) : Calls Tryd.prog 38 #[.pointer (some ⟨bc, oc, none⟩)] w (BoolGw (valC c.pu) w) := by
  have AX := Lib.hid hx
  have p0 := hx.1 0 _ rfl
  rw [Nat.add_zero] at p0
  have hk : c.pu.1.k = c.t.k := LK.co_k _
  have p3 := hx.1 3 _ rfl
  have p4 := hx.1 4 _ rfl
  have lc := hx.lt rfl
  have hl1 : c.t.ks.length ≤ 9223372036854775807 := hx.2.1.kl
  have hl2 : c.e.length ≤ 9223372036854775807 := Nat.le_trans hx.2.2.1 hx.2.2.2.1
  clear hx
  by_cases h4 : c.t.k = 4
  · have F := Lib.hid (show valC c.pu = true by unfold valC; rw [hk, if_pos (.inl h4)])
    have z : (c.t.k == 4) = true := by simpa using h4
    clear h4 hk p3 p4 hl1 hl2
    go_enter Tryd.func38, Tryd.ntmps38
    go_wp2_with fail
    go_ret
    exact ⟨ret_b F.out.symm, Gw.refl _⟩
  have z4 : (c.t.k == 4) = false := by simpa using h4
  by_cases h2 : c.t.k = 2
  · have F := Lib.hid (show valC c.pu = true by unfold valC; rw [hk, if_pos (.inr h2)])
    have z : (c.t.k == 2) = true := by simpa using h2
    clear h2 hk p3 p4 hl1 hl2
    go_enter Tryd.func38, Tryd.ntmps38
    go_wp2_with fail
    go_ret
    exact ⟨ret_b F.out.symm, Gw.refl _⟩
  have z2 : (c.t.k == 2) = false := by simpa using h2
  have hno : ¬ (c.pu.1.k = 4 ∨ c.pu.1.k = 2) := by rw [hk]; omega
  by_cases h8 : c.t.k = 8
  rotate_left
  · have F := Lib.hid (show valC c.pu = false by unfold valC; rw [if_neg hno, hk, if_neg h8])
    have z8 : (c.t.k == 8) = false := by simpa using h8
    clear h4 h2 h8 hk hno p3 p4 hl1 hl2
    go_enter Tryd.func38, Tryd.ntmps38
    go_wp2_with fail
    go_ret
    exact ⟨ret_b F.out.symm, Gw.refl _⟩
  have F0 := Lib.hid (show valC c.pu = (decide (c.t.ks.length = c.e.length) && fvsC c.t.ks) by unfold valC; rw [if_neg hno, hk, if_pos h8, fld_fvs])
  have z8 : (c.t.k == 8) = true := by simpa using h8
  clear h4 h2 h8 hk hno
  have KA := Lib.hid (fun (W : World) (g : Gw w W) => impl_afv c.t.ks c.t.a c.t.cap W (gSl.grow coLen coGr AX.out.2.1.kids g))
  obtain ⟨n, hn⟩ : ∃ n, n = c.t.ks.length := ⟨_, rfl⟩
  obtain ⟨m, hm⟩ : ∃ m, m = c.e.length := ⟨_, rfl⟩
  rw [← hn] at p3 hl1 KA F0
  rw [← hm] at p4 hl2 F0
  clear hn hm
  go_enter Tryd.func38, Tryd.ntmps38
  by_cases h1 : n = m
  rotate_left
  · have z1 : ((m : Int) == (n : Int)) = false := beq_eq_false_iff_ne.2 (by omega)
    have F := Lib.hid (show valC c.pu = false by rw [F0.out, decide_eq_false h1]; rfl)
    clear h1
    go_upto_region 6 with (fail)
    refine wp_region_held_drew (S := fun W => W.cell? ⟨bc, oc + 3, none⟩ = some (.slice c.t.a n c.t.cap) ∧ W.cell? ⟨bc, oc + 4, none⟩ = some (.slice c.ea m c.ec)) (by kernel_rfl) ?_ (fun hHeld => ?_)
    · exact ⟨p3, p4⟩
    refine wpAnyH_take (i := 0) (oi := { dst := some 13, op := _, type := _, pos := _, after := _, guard := _ }) (v := .pointer (some ⟨bc, oc, none⟩)) rfl (by kernel_rfl) (by kernel_rfl) (by kernel_rfl) (fun _ _ _ h => h) (Or.inl ⟨by rfl, ?_⟩) (by assumption) ?_
    · intro w hSw; obtain ⟨p3, p4⟩ := hSw; go_simp
    try simp only [Act.put, List.setIfInBounds_toArray, List.set_cons_zero, List.set_cons_succ]
    refine wpAnyH_take (i := 1) (oi := { dst := some 14, op := _, type := _, pos := _, after := _, guard := _ }) (v := .pointer (some ⟨bc, oc, none⟩)) rfl (by kernel_rfl) (by kernel_rfl) (by kernel_rfl) (fun _ _ _ h => h) (Or.inl ⟨by rfl, ?_⟩) (by assumption) ?_
    · intro w hSw; obtain ⟨p3, p4⟩ := hSw; go_simp
    try simp only [Act.put, List.setIfInBounds_toArray, List.set_cons_zero, List.set_cons_succ]
    refine wpAnyH_take (i := 2) (oi := { dst := some 15, op := _, type := _, pos := _, after := _, guard := _ }) (v := .pointer (some ⟨bc, oc + 4, none⟩)) rfl (by kernel_rfl) (by kernel_rfl) (by kernel_rfl) (fun _ _ _ h => h) (Or.inl ⟨by rfl, ?_⟩) (by assumption) ?_
    · intro w hSw; obtain ⟨p3, p4⟩ := hSw; go_simp
    try simp only [Act.put, List.setIfInBounds_toArray, List.set_cons_zero, List.set_cons_succ]
    refine wpAnyH_take (i := 3) (oi := { dst := some 16, op := _, type := _, pos := _, after := _, guard := _ }) (v := .slice c.ea m c.ec) rfl (by kernel_rfl) (by kernel_rfl) (by kernel_rfl) (fun _ _ _ h => h) (Or.inl ⟨by rfl, ?_⟩) (by assumption) ?_
    · intro w hSw; obtain ⟨p3, p4⟩ := hSw; go_simp
    try simp only [Act.put, List.setIfInBounds_toArray, List.set_cons_zero, List.set_cons_succ]
    refine wpAnyH_take (i := 4) (oi := { dst := some 17, op := _, type := _, pos := _, after := _, guard := _ }) (v := .int .i64 m) rfl (by kernel_rfl) (by kernel_rfl) (by kernel_rfl) (fun _ _ _ h => h) (Or.inl ⟨by rfl, ?_⟩) (by assumption) ?_
    · intro w hSw; obtain ⟨p3, p4⟩ := hSw; go_simp
    try simp only [Act.put, List.setIfInBounds_toArray, List.set_cons_zero, List.set_cons_succ]
    refine wpAnyH_take (i := 5) (oi := { dst := some 18, op := _, type := _, pos := _, after := _, guard := _ }) (v := .pointer (some ⟨bc, oc, none⟩)) rfl (by kernel_rfl) (by kernel_rfl) (by kernel_rfl) (fun _ _ _ h => h) (Or.inl ⟨by rfl, ?_⟩) (by assumption) ?_
    · intro w hSw; obtain ⟨p3, p4⟩ := hSw; go_simp
    try simp only [Act.put, List.setIfInBounds_toArray, List.set_cons_zero, List.set_cons_succ]
    refine wpAnyH_take (i := 6) (oi := { dst := some 19, op := _, type := _, pos := _, after := _, guard := _ }) (v := .pointer (some ⟨bc, oc, none⟩)) rfl (by kernel_rfl) (by kernel_rfl) (by kernel_rfl) (fun _ _ _ h => h) (Or.inl ⟨by rfl, ?_⟩) (by assumption) ?_
    · intro w hSw; obtain ⟨p3, p4⟩ := hSw; go_simp
    try simp only [Act.put, List.setIfInBounds_toArray, List.set_cons_zero, List.set_cons_succ]
    refine wpAnyH_take (i := 7) (oi := { dst := some 20, op := _, type := _, pos := _, after := _, guard := _ }) (v := .pointer (some ⟨bc, oc, none⟩)) rfl (by kernel_rfl) (by kernel_rfl) (by kernel_rfl) (fun _ _ _ h => h) (Or.inl ⟨by rfl, ?_⟩) (by assumption) ?_
    · intro w hSw; obtain ⟨p3, p4⟩ := hSw; go_simp
    try simp only [Act.put, List.setIfInBounds_toArray, List.set_cons_zero, List.set_cons_succ]
    refine wpAnyH_take (i := 8) (oi := { dst := some 21, op := _, type := _, pos := _, after := _, guard := _ }) (v := .pointer (some ⟨bc, oc + 3, none⟩)) rfl (by kernel_rfl) (by kernel_rfl) (by kernel_rfl) (fun _ _ _ h => h) (Or.inl ⟨by rfl, ?_⟩) (by assumption) ?_
    · intro w hSw; obtain ⟨p3, p4⟩ := hSw; go_simp
    try simp only [Act.put, List.setIfInBounds_toArray, List.set_cons_zero, List.set_cons_succ]
    refine wpAnyH_take (i := 9) (oi := { dst := some 22, op := _, type := _, pos := _, after := _, guard := _ }) (v := .slice c.t.a n c.t.cap) rfl (by kernel_rfl) (by kernel_rfl) (by kernel_rfl) (fun _ _ _ h => h) (Or.inl ⟨by rfl, ?_⟩) (by assumption) ?_
    · intro w hSw; obtain ⟨p3, p4⟩ := hSw; go_simp
    try simp only [Act.put, List.setIfInBounds_toArray, List.set_cons_zero, List.set_cons_succ]
    refine wpAnyH_take (i := 10) (oi := { dst := some 23, op := _, type := _, pos := _, after := _, guard := _ }) (v := .int .i64 n) rfl (by kernel_rfl) (by kernel_rfl) (by kernel_rfl) (fun _ _ _ h => h) (Or.inl ⟨by rfl, ?_⟩) (by assumption) ?_
    · intro w hSw; obtain ⟨p3, p4⟩ := hSw; go_simp
    try simp only [Act.put, List.setIfInBounds_toArray, List.set_cons_zero, List.set_cons_succ]
    refine wpAnyH_take (i := 11) (oi := { dst := some 24, op := _, type := _, pos := _, after := _, guard := _ }) (v := .bool false) rfl (by kernel_rfl) (by kernel_rfl) (by kernel_rfl) (fun _ _ _ h => h) (Or.inl ⟨by rfl, ?_⟩) (by assumption) ?_
    · intro w hSw; obtain ⟨p3, p4⟩ := hSw; go_simp
    try simp only [Act.put, List.setIfInBounds_toArray, List.set_cons_zero, List.set_cons_succ]
    refine wpAnyH_take (i := 12) (oi := { dst := some 25, op := _, type := _, pos := _, after := _, guard := _ }) (v := .bool false) rfl (by kernel_rfl) (by kernel_rfl) (by kernel_rfl) (fun _ _ _ h => h) (Or.inl ⟨by rfl, ?_⟩) (by assumption) ?_
    · intro w hSw; obtain ⟨p3, p4⟩ := hSw; go_simp
    try simp only [Act.put, List.setIfInBounds_toArray, List.set_cons_zero, List.set_cons_succ]
    refine wpAnyH_take (i := 13) (oi := { dst := some 26, op := _, type := _, pos := _, after := _, guard := _ }) (v := undef) rfl (by kernel_rfl) (by kernel_rfl) (by kernel_rfl) (fun _ _ _ h => h) (Or.inr ⟨by rfl, rfl⟩) (by assumption) ?_
    try simp only [Act.put, List.setIfInBounds_toArray, List.set_cons_zero, List.set_cons_succ]
    refine wpAnyH_take (i := 14) (oi := { dst := some 27, op := _, type := _, pos := _, after := _, guard := _ }) (v := undef) rfl (by kernel_rfl) (by kernel_rfl) (by kernel_rfl) (fun _ _ _ h => h) (Or.inr ⟨by rfl, rfl⟩) (by assumption) ?_
    try simp only [Act.put, List.setIfInBounds_toArray, List.set_cons_zero, List.set_cons_succ]
    refine wpAnyH_take (i := 15) (oi := { dst := some 28, op := _, type := _, pos := _, after := _, guard := _ }) (v := undef) rfl (by kernel_rfl) (by kernel_rfl) (by kernel_rfl) (fun _ _ _ h => h) (Or.inr ⟨by rfl, rfl⟩) (by assumption) ?_
    try simp only [Act.put, List.setIfInBounds_toArray, List.set_cons_zero, List.set_cons_succ]
    refine wpAnyH_take (i := 16) (oi := { dst := some 29, op := _, type := _, pos := _, after := _, guard := _ }) (v := undef) rfl (by kernel_rfl) (by kernel_rfl) (by kernel_rfl) (fun _ _ _ h => h) (Or.inr ⟨by rfl, rfl⟩) (by assumption) ?_
    try simp only [Act.put, List.setIfInBounds_toArray, List.set_cons_zero, List.set_cons_succ]
    refine wpAnyH_take (i := 17) (oi := { dst := some 30, op := _, type := _, pos := _, after := _, guard := _ }) (v := undef) rfl (by kernel_rfl) (by kernel_rfl) (by kernel_rfl) (fun _ _ _ h => h) (Or.inr ⟨by rfl, rfl⟩) (by assumption) ?_
    try simp only [Act.put, List.setIfInBounds_toArray, List.set_cons_zero, List.set_cons_succ]
    refine wpAnyH_take (i := 18) (oi := { dst := some 31, op := _, type := _, pos := _, after := _, guard := _ }) (v := undef) rfl (by kernel_rfl) (by kernel_rfl) (by kernel_rfl) (fun _ _ _ h => h) (Or.inr ⟨by rfl, rfl⟩) (by assumption) ?_
    try simp only [Act.put, List.setIfInBounds_toArray, List.set_cons_zero, List.set_cons_succ]
    refine wpAnyH_take (i := 19) (oi := { dst := some 32, op := _, type := _, pos := _, after := _, guard := _ }) (v := .bool false) rfl (by kernel_rfl) (by kernel_rfl) (by kernel_rfl) (fun _ _ _ h => h) (Or.inl ⟨by rfl, ?_⟩) (by assumption) ?_
    · intro w hSw; obtain ⟨p3, p4⟩ := hSw; go_simp
    try simp only [Act.put, List.setIfInBounds_toArray, List.set_cons_zero, List.set_cons_succ]
    refine wpAnyH_take (i := 20) (oi := { dst := some 2, op := _, type := _, pos := _, after := _, guard := _ }) (v := .bool false) rfl (by kernel_rfl) (by kernel_rfl) (by kernel_rfl) (fun _ _ _ h => h) (Or.inl ⟨by rfl, ?_⟩) (by assumption) ?_
    · intro w hSw; obtain ⟨p3, p4⟩ := hSw; go_simp
    try simp only [Act.put, List.setIfInBounds_toArray, List.set_cons_zero, List.set_cons_succ]
    refine wpAnyH_done (by kernel_rfl) ?_ _
    clear hHeld
    go_wp2_with fail
    go_ret
    exact ⟨ret_b F.out.symm, (Gw.refl w).drew⟩
  subst h1
  have z1 : ((n : Int) == (n : Int)) = true := by simp
  have F := Lib.hid (show valC c.pu = fvsC c.t.ks by rw [F0.out, decide_eq_true rfl]; rfl)
  go_upto_region 6 with (fail)
  refine wp_region_held_drew (S := fun W => W.cell? ⟨bc, oc + 3, none⟩ = some (.slice c.t.a n c.t.cap) ∧ W.cell? ⟨bc, oc + 4, none⟩ = some (.slice c.ea n c.ec)) (by kernel_rfl) ?_ (fun hHeld => ?_)
  · exact ⟨p3, p4⟩
  refine wpAnyH_take (i := 0) (oi := { dst := some 13, op := _, type := _, pos := _, after := _, guard := _ }) (v := .pointer (some ⟨bc, oc, none⟩)) rfl (by kernel_rfl) (by kernel_rfl) (by kernel_rfl) (fun _ _ _ h => h) (Or.inl ⟨by rfl, ?_⟩) (by assumption) ?_
  · intro w hSw; obtain ⟨p3, p4⟩ := hSw; go_simp
  try simp only [Act.put, List.setIfInBounds_toArray, List.set_cons_zero, List.set_cons_succ]
  refine wpAnyH_take (i := 1) (oi := { dst := some 14, op := _, type := _, pos := _, after := _, guard := _ }) (v := .pointer (some ⟨bc, oc, none⟩)) rfl (by kernel_rfl) (by kernel_rfl) (by kernel_rfl) (fun _ _ _ h => h) (Or.inl ⟨by rfl, ?_⟩) (by assumption) ?_
  · intro w hSw; obtain ⟨p3, p4⟩ := hSw; go_simp
  try simp only [Act.put, List.setIfInBounds_toArray, List.set_cons_zero, List.set_cons_succ]
  refine wpAnyH_take (i := 2) (oi := { dst := some 15, op := _, type := _, pos := _, after := _, guard := _ }) (v := .pointer (some ⟨bc, oc + 4, none⟩)) rfl (by kernel_rfl) (by kernel_rfl) (by kernel_rfl) (fun _ _ _ h => h) (Or.inl ⟨by rfl, ?_⟩) (by assumption) ?_
  · intro w hSw; obtain ⟨p3, p4⟩ := hSw; go_simp
  try simp only [Act.put, List.setIfInBounds_toArray, List.set_cons_zero, List.set_cons_succ]
  refine wpAnyH_take (i := 3) (oi := { dst := some 16, op := _, type := _, pos := _, after := _, guard := _ }) (v := .slice c.ea n c.ec) rfl (by kernel_rfl) (by kernel_rfl) (by kernel_rfl) (fun _ _ _ h => h) (Or.inl ⟨by rfl, ?_⟩) (by assumption) ?_
  · intro w hSw; obtain ⟨p3, p4⟩ := hSw; go_simp
  try simp only [Act.put, List.setIfInBounds_toArray, List.set_cons_zero, List.set_cons_succ]
  refine wpAnyH_take (i := 4) (oi := { dst := some 17, op := _, type := _, pos := _, after := _, guard := _ }) (v := .int .i64 n) rfl (by kernel_rfl) (by kernel_rfl) (by kernel_rfl) (fun _ _ _ h => h) (Or.inl ⟨by rfl, ?_⟩) (by assumption) ?_
  · intro w hSw; obtain ⟨p3, p4⟩ := hSw; go_simp
  try simp only [Act.put, List.setIfInBounds_toArray, List.set_cons_zero, List.set_cons_succ]
  refine wpAnyH_take (i := 5) (oi := { dst := some 18, op := _, type := _, pos := _, after := _, guard := _ }) (v := .pointer (some ⟨bc, oc, none⟩)) rfl (by kernel_rfl) (by kernel_rfl) (by kernel_rfl) (fun _ _ _ h => h) (Or.inl ⟨by rfl, ?_⟩) (by assumption) ?_
  · intro w hSw; obtain ⟨p3, p4⟩ := hSw; go_simp
  try simp only [Act.put, List.setIfInBounds_toArray, List.set_cons_zero, List.set_cons_succ]
  refine wpAnyH_take (i := 6) (oi := { dst := some 19, op := _, type := _, pos := _, after := _, guard := _ }) (v := .pointer (some ⟨bc, oc, none⟩)) rfl (by kernel_rfl) (by kernel_rfl) (by kernel_rfl) (fun _ _ _ h => h) (Or.inl ⟨by rfl, ?_⟩) (by assumption) ?_
  · intro w hSw; obtain ⟨p3, p4⟩ := hSw; go_simp
  try simp only [Act.put, List.setIfInBounds_toArray, List.set_cons_zero, List.set_cons_succ]
  refine wpAnyH_take (i := 7) (oi := { dst := some 20, op := _, type := _, pos := _, after := _, guard := _ }) (v := .pointer (some ⟨bc, oc, none⟩)) rfl (by kernel_rfl) (by kernel_rfl) (by kernel_rfl) (fun _ _ _ h => h) (Or.inl ⟨by rfl, ?_⟩) (by assumption) ?_
  · intro w hSw; obtain ⟨p3, p4⟩ := hSw; go_simp
  try simp only [Act.put, List.setIfInBounds_toArray, List.set_cons_zero, List.set_cons_succ]
  refine wpAnyH_take (i := 8) (oi := { dst := some 21, op := _, type := _, pos := _, after := _, guard := _ }) (v := .pointer (some ⟨bc, oc + 3, none⟩)) rfl (by kernel_rfl) (by kernel_rfl) (by kernel_rfl) (fun _ _ _ h => h) (Or.inl ⟨by rfl, ?_⟩) (by assumption) ?_
  · intro w hSw; obtain ⟨p3, p4⟩ := hSw; go_simp
  try simp only [Act.put, List.setIfInBounds_toArray, List.set_cons_zero, List.set_cons_succ]
  refine wpAnyH_take (i := 9) (oi := { dst := some 22, op := _, type := _, pos := _, after := _, guard := _ }) (v := .slice c.t.a n c.t.cap) rfl (by kernel_rfl) (by kernel_rfl) (by kernel_rfl) (fun _ _ _ h => h) (Or.inl ⟨by rfl, ?_⟩) (by assumption) ?_
  · intro w hSw; obtain ⟨p3, p4⟩ := hSw; go_simp
  try simp only [Act.put, List.setIfInBounds_toArray, List.set_cons_zero, List.set_cons_succ]
  refine wpAnyH_take (i := 10) (oi := { dst := some 23, op := _, type := _, pos := _, after := _, guard := _ }) (v := .int .i64 n) rfl (by kernel_rfl) (by kernel_rfl) (by kernel_rfl) (fun _ _ _ h => h) (Or.inl ⟨by rfl, ?_⟩) (by assumption) ?_
  · intro w hSw; obtain ⟨p3, p4⟩ := hSw; go_simp
  try simp only [Act.put, List.setIfInBounds_toArray, List.set_cons_zero, List.set_cons_succ]
  refine wpAnyH_take (i := 11) (oi := { dst := some 24, op := _, type := _, pos := _, after := _, guard := _ }) (v := .bool true) rfl (by kernel_rfl) (by kernel_rfl) (by kernel_rfl) (fun _ _ _ h => h) (Or.inl ⟨by rfl, ?_⟩) (by assumption) ?_
  · intro w hSw; obtain ⟨p3, p4⟩ := hSw; go_simp
  try simp only [Act.put, List.setIfInBounds_toArray, List.set_cons_zero, List.set_cons_succ]
  refine wpAnyH_take (i := 12) (oi := { dst := some 25, op := _, type := _, pos := _, after := _, guard := _ }) (v := .bool true) rfl (by kernel_rfl) (by kernel_rfl) (by kernel_rfl) (fun _ _ _ h => h) (Or.inl ⟨by rfl, ?_⟩) (by assumption) ?_
  · intro w hSw; obtain ⟨p3, p4⟩ := hSw; go_simp
  try simp only [Act.put, List.setIfInBounds_toArray, List.set_cons_zero, List.set_cons_succ]
  refine wpAnyH_take (i := 13) (oi := { dst := some 26, op := _, type := _, pos := _, after := _, guard := _ }) (v := .pointer (some ⟨bc, oc, none⟩)) rfl (by kernel_rfl) (by kernel_rfl) (by kernel_rfl) (fun _ _ _ h => h) (Or.inl ⟨by rfl, ?_⟩) (by assumption) ?_
  · intro w hSw; obtain ⟨p3, p4⟩ := hSw; go_simp
  try simp only [Act.put, List.setIfInBounds_toArray, List.set_cons_zero, List.set_cons_succ]
  refine wpAnyH_take (i := 14) (oi := { dst := some 27, op := _, type := _, pos := _, after := _, guard := _ }) (v := .pointer (some ⟨bc, oc, none⟩)) rfl (by kernel_rfl) (by kernel_rfl) (by kernel_rfl) (fun _ _ _ h => h) (Or.inl ⟨by rfl, ?_⟩) (by assumption) ?_
  · intro w hSw; obtain ⟨p3, p4⟩ := hSw; go_simp
  try simp only [Act.put, List.setIfInBounds_toArray, List.set_cons_zero, List.set_cons_succ]
  refine wpAnyH_take (i := 15) (oi := { dst := some 28, op := _, type := _, pos := _, after := _, guard := _ }) (v := .pointer (some ⟨bc, oc, none⟩)) rfl (by kernel_rfl) (by kernel_rfl) (by kernel_rfl) (fun _ _ _ h => h) (Or.inl ⟨by rfl, ?_⟩) (by assumption) ?_
  · intro w hSw; obtain ⟨p3, p4⟩ := hSw; go_simp
  try simp only [Act.put, List.setIfInBounds_toArray, List.set_cons_zero, List.set_cons_succ]
  refine wpAnyH_take (i := 16) (oi := { dst := some 29, op := _, type := _, pos := _, after := _, guard := _ }) (v := .pointer (some ⟨bc, oc + 3, none⟩)) rfl (by kernel_rfl) (by kernel_rfl) (by kernel_rfl) (fun _ _ _ h => h) (Or.inl ⟨by rfl, ?_⟩) (by assumption) ?_
  · intro w hSw; obtain ⟨p3, p4⟩ := hSw; go_simp
  try simp only [Act.put, List.setIfInBounds_toArray, List.set_cons_zero, List.set_cons_succ]
  refine wpAnyH_take (i := 17) (oi := { dst := some 30, op := _, type := _, pos := _, after := _, guard := _ }) (v := .slice c.t.a n c.t.cap) rfl (by kernel_rfl) (by kernel_rfl) (by kernel_rfl) (fun _ _ _ h => h) (Or.inl ⟨by rfl, ?_⟩) (by assumption) ?_
  · intro w hSw; obtain ⟨p3, p4⟩ := hSw; go_simp
  try simp only [Act.put, List.setIfInBounds_toArray, List.set_cons_zero, List.set_cons_succ]
  refine wpAnyH_ready (rs := [18]) (by kernel_rfl) (by simp) ?_
  refine AllReadyH.cons (o := { dst := some 31, op := _, type := _, pos := _, after := _, guard := _ }) rfl (fun K hK => ?_) AllReadyH.nil
  go_simp
  go_at_call 78
  refine (KA.out w.drew (Gw.refl w).drew).mono ?_
  rintro e w2 ⟨rfl, g2⟩
  have k2 : ∀ b o, b < w.heap.size → w2.cell? ⟨b, o, none⟩ = w.cell? ⟨b, o, none⟩ := fun b o h => (bcell g2).1 b o h
  go_wp2_with fail
  refine hK.out _ _ ⟨(k2 _ _ lc).trans p3, (k2 _ _ lc).trans p4⟩ (fun hHeld => ?_)
  clear hK K
  try simp only [Act.put, List.setIfInBounds_toArray, List.set_cons_zero, List.set_cons_succ]
  refine wpAnyH_take (i := 19) (oi := { dst := some 32, op := _, type := _, pos := _, after := _, guard := _ }) (v := .bool (fvsC c.t.ks)) rfl (by kernel_rfl) (by kernel_rfl) (by kernel_rfl) (fun _ _ _ h => h) (Or.inl ⟨by rfl, ?_⟩) (by assumption) ?_
  · intro w hSw; obtain ⟨p3, p4⟩ := hSw; go_simp
  try simp only [Act.put, List.setIfInBounds_toArray, List.set_cons_zero, List.set_cons_succ]
  refine wpAnyH_take (i := 20) (oi := { dst := some 2, op := _, type := _, pos := _, after := _, guard := _ }) (v := .bool (fvsC c.t.ks)) rfl (by kernel_rfl) (by kernel_rfl) (by kernel_rfl) (fun _ _ _ h => h) (Or.inl ⟨by rfl, ?_⟩) (by assumption) ?_
  · intro w hSw; obtain ⟨p3, p4⟩ := hSw; go_simp
  try simp only [Act.put, List.setIfInBounds_toArray, List.set_cons_zero, List.set_cons_succ]
  refine wpAnyH_done (by kernel_rfl) ?_ _
  clear hHeld
  go_wp2_with fail
  go_ret
  exact ⟨ret_b F.out.symm, (Gw.refl w).drew.trans g2⟩

mutual
theorem pl_shift : ∀ (t : Co) (d x lv : Nat), (t.pl (x + d) lv).any freeP = (t.pl x lv).any fun p => p.k == 1 && decide ((p.bd : Int) + d ≤ p.v)
  | .mk k v ds ks, d, x, lv => by
    rw [Co.pl, Co.pl, List.any_cons, List.any_cons, pls_shift k d x (lv + bxK k) 0 ks]
    congr 1
theorem pls_shift : ∀ (k : Int) (d x lv i : Nat) (ts : List Co), (Co.pl.pls k (x + d) lv i ts).any freeP = (Co.pl.pls k x lv i ts).any fun p => p.k == 1 && decide ((p.bd : Int) + d ≤ p.v)
  | k, d, x, lv, i, [] => by rw [Co.pl.pls, Co.pl.pls]; rfl
  | k, d, x, lv, i, t :: ts => by
    rw [Co.pl.pls, Co.pl.pls, List.any_append, List.any_append, pls_shift k d x lv (i + 1) ts]
    have := pl_shift t d (x + bndK k i) lv
    rw [show x + bndK k i + d = x + d + bndK k i by omega] at this
    rw [this]
end
theorem fv_above (u : LK) (b o d : Nat) : (u.co.pl d 0).any freeP = (fvL (nodesK u b o 0 0)).any fun v => decide (d ≤ v) := by
  have h := pl_shift u.co d 0 0
  rw [Nat.zero_add] at h
  rw [h, ← nodesK_pl u b o 0 0, List.any_map]
  generalize nodesK u b o 0 0 = xs
  induction xs with
  | nil => rfl
  | cons x xs ih =>
    rw [List.any_cons, ih]
    unfold fvL
    rw [List.filterMap_cons]
    cases hf : freeP x.pk with
    | true =>
      rw [fvN_yes hf, List.any_cons]
      congr 1
      unfold freeP at hf
      simp only [Bool.and_eq_true, decide_eq_true_eq] at hf
      have h1 : (x.u.k == 1) = true := hf.1
      have h2 : (x.bd : Int) ≤ x.u.v := hf.2
      show (x.u.k == 1 && decide ((x.bd : Int) + d ≤ x.u.v)) = _
      rw [h1, Bool.true_and]
      congr 1
      simp only [eq_iff_iff]
      omega
    | false =>
      rw [fvN_no hf]
      have : (x.pk.k == 1 && decide ((x.pk.bd : Int) + d ≤ x.pk.v)) = false := by
        unfold freeP at hf
        cases h1 : x.pk.k == 1 with
        | false => rfl
        | true =>
          rw [h1, Bool.true_and, decide_eq_false_iff_not] at hf
          rw [Bool.true_and]
          exact decide_eq_false (by omega)
      show ((x.pk.k == 1 && decide ((x.pk.bd : Int) + d ≤ x.pk.v)) || _) = _
      rw [this]; rfl

theorem clG_T (n : Int) (u : LClP) : clG n (fun _ => true) u = (decide (u.2.length ≤ 256) && ((okC u.1 && u.1.all erH) && (u.1.all (refH n) && !((u.1.pl u.2.length 0).any freeP)))) := by
  unfold clG
  have : u.2.all (fun _ => true) = true := List.all_eq_true.2 fun _ _ => rfl
  rw [this]
  cases okC u.1 <;> cases u.1.all erH <;> cases u.1.all (refH n) <;> cases (u.1.pl u.2.length 0).any freeP <;> cases decide (u.2.length ≤ 256) <;> rfl

set_option maxRecDepth 100000 in
set_option maxHeartbeats 1000000 in
theorem impl_clo_no1 (c : LCl) (n : Nat) (w : World) (bc oc : Nat) (hx : clAt w bc oc c) (hT : KTbl w) (h1 : ¬ c.e.length ≤ 256) : Calls Tryd.prog 37 #[.pointer (some ⟨bc, oc, none⟩), .int .i64 n] w (BoolGw false w) := by
  have g0 : Gw w ((w.alloc (.cells #[.pointer (some ⟨bc, oc, none⟩)] 81)).alloc (.cells #[.bool false] 4)) := ((Gw.refl w).alloc _).alloc _
  have BK := ((Gw.refl (w.alloc (.cells #[.pointer (some ⟨bc, oc, none⟩)] 81))).alloc (.cells #[.bool false] 4)).block _ (by simp) |>.trans (Boxed.new w 81 (.pointer (some ⟨bc, oc, none⟩)))
  have BR := Boxed.new (w.alloc (.cells #[.pointer (some ⟨bc, oc, none⟩)] 81)) 4 (.bool false)
  rw [World.size_alloc] at BR
  have AX := Lib.hid (hx.grow clGr g0)
  have TB := Lib.hid (hT.grow g0)
  have G := Lib.hid g0
  have hel : c.e.length ≤ 9223372036854775807 := Nat.le_trans hx.2.2.1 hx.2.2.2.1
  clear hx hT g0
  have z1 : decide ((256 : Int) < (c.e.length : Int)) = true := decide_eq_true (by omega)
  clear h1
  go_enter Tryd.func37, Tryd.ntmps37
  go_upto_region 1 with (fail)
  generalize (w.alloc (.cells #[.pointer (some ⟨bc, oc, none⟩)] 81)).alloc (.cells #[.bool false] 4) = w1 at *
  obtain ⟨B0, hB0⟩ : ∃ x, x = w.heap.size := ⟨_, rfl⟩
  obtain ⟨B1, hB1⟩ : ∃ x, x = w.heap.size + 1 := ⟨_, rfl⟩
  rw [← hB0] at BK
  rw [← hB1] at BR
  rw [← hB1, ← hB0]
  have HB := Lib.hid (And.intro hB0 hB1)
  have BN := Lib.hid (show Boxed w1 B0 81 (.pointer (some ⟨bc, oc, none⟩)) from BK)
  have BRR := Lib.hid BR
  clear hB0 BK BR hB1
  have hB1 : w.heap.size ≤ B1 := by have := HB.out; omega
  have a0 := BN.out.cell
  have q4 := (AX.out.grow clGr (Gw.refl w1)).1 4 _ rfl
  have b1 := BRR.out
  have cR := b1.cell
  have fR := b1.frozen
  have G2 := Lib.hid G.out
  go_wp2_with fail
  have cF := (b1.set (.bool false)).cell
  refine bodyPost_ret (v := .bool false) (by simp [results, Tryd.results37, go_sem, cF]) rfl ⟨rfl, Below.setCell G2.out hB1 _⟩

set_option maxRecDepth 100000 in
set_option maxHeartbeats 1000000 in
theorem impl_clo_no2 (c : LCl) (n : Nat) (w : World) (bc oc : Nat) (hx : clAt w bc oc c) (hT : KTbl w) (h1 : c.e.length ≤ 256) (h2 : (okC c.t.co && c.t.co.all erH) = false) : Calls Tryd.prog 37 #[.pointer (some ⟨bc, oc, none⟩), .int .i64 n] w (BoolGw false w) := by
  have g0 : Gw w ((w.alloc (.cells #[.pointer (some ⟨bc, oc, none⟩)] 81)).alloc (.cells #[.bool false] 4)) := ((Gw.refl w).alloc _).alloc _
  have BK := ((Gw.refl (w.alloc (.cells #[.pointer (some ⟨bc, oc, none⟩)] 81))).alloc (.cells #[.bool false] 4)).block _ (by simp) |>.trans (Boxed.new w 81 (.pointer (some ⟨bc, oc, none⟩)))
  have BR := Boxed.new (w.alloc (.cells #[.pointer (some ⟨bc, oc, none⟩)] 81)) 4 (.bool false)
  rw [World.size_alloc] at BR
  have AX := Lib.hid (hx.grow clGr g0)
  have TB := Lib.hid (hT.grow g0)
  have G := Lib.hid g0
  have hel : c.e.length ≤ 9223372036854775807 := Nat.le_trans hx.2.2.1 hx.2.2.2.1
  clear hx hT g0
  have z1 : decide ((256 : Int) < (c.e.length : Int)) = false := decide_eq_false (by omega)
  clear h1
  go_enter Tryd.func37, Tryd.ntmps37
  go_upto_region 1 with (fail)
  generalize (w.alloc (.cells #[.pointer (some ⟨bc, oc, none⟩)] 81)).alloc (.cells #[.bool false] 4) = w1 at *
  obtain ⟨B0, hB0⟩ : ∃ x, x = w.heap.size := ⟨_, rfl⟩
  obtain ⟨B1, hB1⟩ : ∃ x, x = w.heap.size + 1 := ⟨_, rfl⟩
  rw [← hB0] at BK
  rw [← hB1] at BR
  rw [← hB1, ← hB0]
  have HB := Lib.hid (And.intro hB0 hB1)
  have BN := Lib.hid (show Boxed w1 B0 81 (.pointer (some ⟨bc, oc, none⟩)) from BK)
  have BRR := Lib.hid BR
  clear hB0 BK BR hB1
  have hB1 : w.heap.size ≤ B1 := by have := HB.out; omega
  have a0 := BN.out.cell
  have q0 := (AX.out.grow clGr (Gw.refl w1)).1 0 _ rfl
  have q1 := (AX.out.grow clGr (Gw.refl w1)).1 1 _ rfl
  have q2 := (AX.out.grow clGr (Gw.refl w1)).1 2 _ rfl
  have q3 := (AX.out.grow clGr (Gw.refl w1)).1 3 _ rfl
  have q4 := (AX.out.grow clGr (Gw.refl w1)).1 4 _ rfl
  rw [Nat.add_zero] at q0
  have KE0 := impl_erased c.t w1 AX.out.2.1 TB.out
  rw [h2] at KE0
  have KE := Lib.hid KE0
  clear KE0 h2
  go_wp2_with fail
  refine KE.out.mono ?_
  rintro e w2 ⟨rfl, g2⟩
  have b1 : Boxed w2 B1 4 (.bool false) := (g2.block _ BRR.out.lt).trans BRR.out
  have cR := b1.cell
  have fR := b1.frozen
  have G2 := Lib.hid (G.out.trans g2)
  clear a0 q0 q1 q2 q3 q4 g2
  go_wp2_with fail
  have cF := (b1.set (.bool false)).cell
  refine bodyPost_ret (v := .bool false) (by simp [results, Tryd.results37, go_sem, cF]) rfl ⟨rfl, Below.setCell G2.out hB1 _⟩

set_option maxRecDepth 100000 in
set_option maxHeartbeats 1000000 in
theorem impl_clo_no3 (c : LCl) (n : Nat) (w : World) (bc oc : Nat) (hx : clAt w bc oc c) (hT : KTbl w) (h1 : c.e.length ≤ 256) (h2 : (okC c.t.co && c.t.co.all erH) = true) (h3 : c.t.co.all (refH n) = false) : Calls Tryd.prog 37 #[.pointer (some ⟨bc, oc, none⟩), .int .i64 n] w (BoolGw false w) := by
  have g0 : Gw w ((w.alloc (.cells #[.pointer (some ⟨bc, oc, none⟩)] 81)).alloc (.cells #[.bool false] 4)) := ((Gw.refl w).alloc _).alloc _
  have BK := ((Gw.refl (w.alloc (.cells #[.pointer (some ⟨bc, oc, none⟩)] 81))).alloc (.cells #[.bool false] 4)).block _ (by simp) |>.trans (Boxed.new w 81 (.pointer (some ⟨bc, oc, none⟩)))
  have BR := Boxed.new (w.alloc (.cells #[.pointer (some ⟨bc, oc, none⟩)] 81)) 4 (.bool false)
  rw [World.size_alloc] at BR
  have AX := Lib.hid (hx.grow clGr g0)
  have TB := Lib.hid (hT.grow g0)
  have G := Lib.hid g0
  have hel : c.e.length ≤ 9223372036854775807 := Nat.le_trans hx.2.2.1 hx.2.2.2.1
  clear hx hT g0
  have z1 : decide ((256 : Int) < (c.e.length : Int)) = false := decide_eq_false (by omega)
  have hok : okC c.t.co = true := by simp only [Bool.and_eq_true] at h2; exact h2.1
  clear h1
  go_enter Tryd.func37, Tryd.ntmps37
  go_upto_region 1 with (fail)
  generalize (w.alloc (.cells #[.pointer (some ⟨bc, oc, none⟩)] 81)).alloc (.cells #[.bool false] 4) = w1 at *
  obtain ⟨B0, hB0⟩ : ∃ x, x = w.heap.size := ⟨_, rfl⟩
  obtain ⟨B1, hB1⟩ : ∃ x, x = w.heap.size + 1 := ⟨_, rfl⟩
  rw [← hB0] at BK
  rw [← hB1] at BR
  rw [← hB1, ← hB0]
  have HB := Lib.hid (And.intro hB0 hB1)
  have BN := Lib.hid (show Boxed w1 B0 81 (.pointer (some ⟨bc, oc, none⟩)) from BK)
  have BRR := Lib.hid BR
  clear hB0 BK BR hB1
  have hB1 : w.heap.size ≤ B1 := by have := HB.out; omega
  have a0 := BN.out.cell
  have q0 := (AX.out.grow clGr (Gw.refl w1)).1 0 _ rfl
  have q1 := (AX.out.grow clGr (Gw.refl w1)).1 1 _ rfl
  have q2 := (AX.out.grow clGr (Gw.refl w1)).1 2 _ rfl
  have q3 := (AX.out.grow clGr (Gw.refl w1)).1 3 _ rfl
  have q4 := (AX.out.grow clGr (Gw.refl w1)).1 4 _ rfl
  rw [Nat.add_zero] at q0
  have KE0 := impl_erased c.t w1 AX.out.2.1 TB.out
  rw [h2] at KE0
  have KE := Lib.hid KE0
  have KN := Lib.hid (fun (W : World) (g : Gw w1 W) => (by
    have := impl_allNamed c.t (n : Int) W bc oc (AX.out.t.grow g) (by have := (okC_good hok).2.1; omega)
    rwa [← all_nam n c.t.co (okC_good hok).1, h3] at this : Calls Tryd.prog 76 #[.pointer (some ⟨bc, oc, none⟩), .int .i64 n] W (BoolGw false W)))
  clear KE0 h2 h3 hok
  go_wp2_with fail
  refine KE.out.mono ?_
  rintro e w2 ⟨rfl, g2⟩
  have GG := Lib.hid g2
  clear a0 q0 q1 q2 q3 q4 g2
  have a0 := (show Boxed w2 B0 81 (.pointer (some ⟨bc, oc, none⟩)) from (GG.out.block _ BN.out.lt).trans BN.out).cell
  go_wp2_with fail
  refine (KN.out w2 GG.out).mono ?_
  rintro e w3 ⟨rfl, g3⟩
  have b1 : Boxed w3 B1 4 (.bool false) := ((GG.out.trans g3).block _ BRR.out.lt).trans BRR.out
  have cR := b1.cell
  have fR := b1.frozen
  have G2 := Lib.hid (G.out.trans (GG.out.trans g3))
  clear a0 g3
  go_wp2_with fail
  have cF := (b1.set (.bool false)).cell
  refine bodyPost_ret (v := .bool false) (by simp [results, Tryd.results37, go_sem, cF]) rfl ⟨rfl, Below.setCell G2.out hB1 _⟩

set_option maxRecDepth 100000 in
set_option maxHeartbeats 4000000 in
theorem impl_clo_yes (c : LCl) (n : Nat) (w : World) (bc oc : Nat) (hx : clAt w bc oc c) (hT : KTbl w) (h1 : c.e.length ≤ 256) (h2 : (okC c.t.co && c.t.co.all erH) = true) (h3 : c.t.co.all (refH n) = true) : Calls Tryd.prog 37 #[.pointer (some ⟨bc, oc, none⟩), .int .i64 n] w (BoolGw (!((c.t.co.pl c.e.length 0).any freeP)) w) := by
  have g0 : Gw w ((w.alloc (.cells #[.pointer (some ⟨bc, oc, none⟩)] 81)).alloc (.cells #[.bool false] 4)) := ((Gw.refl w).alloc _).alloc _
  have BK := ((Gw.refl (w.alloc (.cells #[.pointer (some ⟨bc, oc, none⟩)] 81))).alloc (.cells #[.bool false] 4)).block _ (by simp) |>.trans (Boxed.new w 81 (.pointer (some ⟨bc, oc, none⟩)))
  have BR := Boxed.new (w.alloc (.cells #[.pointer (some ⟨bc, oc, none⟩)] 81)) 4 (.bool false)
  rw [World.size_alloc] at BR
  have AX := Lib.hid (hx.grow clGr g0)
  have TB := Lib.hid (hT.grow g0)
  have G := Lib.hid g0
  have hel : c.e.length ≤ 9223372036854775807 := Nat.le_trans hx.2.2.1 hx.2.2.2.1
  clear hx hT g0
  have z1 : decide ((256 : Int) < (c.e.length : Int)) = false := decide_eq_false (by omega)
  have hok : okC c.t.co = true := by simp only [Bool.and_eq_true] at h2; exact h2.1
  have HOK := Lib.hid hok
  clear h1
  refine (callsIn_wide (n := 9)).1 ?_
  refine callsIn_of_wp_marks Tryd.func37 rfl trivial ?_ rfl
  simp only [Tryd.ntmps37, List.size_toArray, List.length_cons, List.length_nil, Nat.reduceAdd, Nat.reduceSub, Array.replicate_succ, Array.replicate_zero, List.push_toArray, List.append_toArray, List.nil_append, List.cons_append]
  have f1 : Fence.wide.fn 75 := trivial
  have f2 : Fence.wide.fn 77 := trivial
  have f3 : Fence.wide.fn 76 := trivial
  have f4 : Fence.wide.fn 43 := trivial
  gi_upto_region 1 with (fail)
  generalize (w.alloc (.cells #[.pointer (some ⟨bc, oc, none⟩)] 81)).alloc (.cells #[.bool false] 4) = w1 at *
  obtain ⟨B0, hB0⟩ : ∃ x, x = w.heap.size := ⟨_, rfl⟩
  obtain ⟨B1, hB1⟩ : ∃ x, x = w.heap.size + 1 := ⟨_, rfl⟩
  rw [← hB0] at BK
  rw [← hB1] at BR
  rw [← hB1, ← hB0]
  have HB := Lib.hid (And.intro hB0 hB1)
  have BN := Lib.hid (show Boxed w1 B0 81 (.pointer (some ⟨bc, oc, none⟩)) from BK)
  have BRR := Lib.hid BR
  clear hB0 BK BR hB1
  have hB1 : w.heap.size ≤ B1 := by have := HB.out; omega
  have a0 := BN.out.cell
  have q0 := (AX.out.grow clGr (Gw.refl w1)).1 0 _ rfl
  have q1 := (AX.out.grow clGr (Gw.refl w1)).1 1 _ rfl
  have q2 := (AX.out.grow clGr (Gw.refl w1)).1 2 _ rfl
  have q3 := (AX.out.grow clGr (Gw.refl w1)).1 3 _ rfl
  have q4 := (AX.out.grow clGr (Gw.refl w1)).1 4 _ rfl
  rw [Nat.add_zero] at q0
  have KE0 := impl_erased c.t w1 AX.out.2.1 TB.out
  rw [h2] at KE0
  have KE := Lib.hid KE0
  have KN := Lib.hid (fun (W : World) (g : Gw w1 W) => (by
    have := impl_allNamed c.t (n : Int) W bc oc (AX.out.t.grow g) (by have := (okC_good hok).2.1; omega)
    rwa [← all_nam n c.t.co (okC_good hok).1, h3] at this : Calls Tryd.prog 76 #[.pointer (some ⟨bc, oc, none⟩), .int .i64 n] W (BoolGw true W)))
  clear KE0 h2 h3 hok
  gi_wp2_with fail
  refine (callsIn_wide.2 KE.out).mono ?_
  rintro e w2 ⟨rfl, g2⟩
  have GG := Lib.hid g2
  clear a0 q0 q1 q2 q3 q4 g2
  have a0 := (show Boxed w2 B0 81 (.pointer (some ⟨bc, oc, none⟩)) from (GG.out.block _ BN.out.lt).trans BN.out).cell
  gi_wp2_with fail
  refine (callsIn_wide.2 (KN.out w2 GG.out)).mono ?_
  rintro e w3 ⟨rfl, g3⟩
  have GH := Lib.hid (GG.out.trans g3)
  clear a0 g3 GG KN KE z1
  have a0 := (show Boxed w3 B0 81 (.pointer (some ⟨bc, oc, none⟩)) from (GH.out.block _ BN.out.lt).trans BN.out).cell
  have KN := Lib.hid (impl_freeVars bc oc w3)
  have BRR2 := Lib.hid (show Boxed w3 B1 4 (.bool false) from (GH.out.block _ BRR.out.lt).trans BRR.out)
  have BN2 := Lib.hid (show Boxed w3 B0 81 (.pointer (some ⟨bc, oc, none⟩)) from (GH.out.block _ BN.out.lt).trans BN.out)
  have AX2 := Lib.hid (AX.out.grow clGr GH.out)
  have G2 := Lib.hid (G.out.trans GH.out)
  gi_wp2_with fail
  refine (callsIn_wide.2 KN.out).mono ?_
  rintro e w4 ⟨rfl, hw4'⟩
  have HW3 := Lib.hid hw4'
  clear hw4'
  gi_wp2_with fail
  have hw3 := HW3.out
  clear HW3
  obtain ⟨B, hB⟩ : ∃ x, x = w3.heap.size := ⟨_, rfl⟩
  have g23 : Gw w3 w4 := by rw [hw3]; exact (Gw.refl w3).alloc _
  have hBs : B < w4.heap.size := by rw [hw3, hB]; simp
  have HC := Lib.hid (show w4.cell? ⟨B, 0, none⟩ = some (.pointer (some ⟨bc, oc, none⟩)) by rw [hw3, hB]; exact cell_of_row _ _ 0 _ _ _ (heap_alloc_new w3 _))
  have CA := Lib.hid AX2.out.t
  have HD := Lib.hid (show c.t.co.dp ≤ 1000 by have := (okC_good HOK.out).2.1; omega)
  have G23 := Lib.hid g23
  have HS := Lib.hid (show w3.heap.size ≤ w4.heap.size ∧ w.heap.size ≤ w3.heap.size ∧ B1 < w3.heap.size from ⟨g23.size, G2.out.size, BRR2.out.lt⟩)
  have I0 := Lib.hid (show (Boxed w4 B1 4 (.bool false) ∧ Below w3.heap.size w3 w4) ∧ ∀ x ∈ ([] : List (FvS (fvL (nodesK c.t bc oc 0 0)))), x.1 < c.e.length from ⟨⟨(g23.block _ BRR2.out.lt).trans BRR2.out, g23⟩, fun x h => by cases h⟩)
  have LK1 := Lib.hid (fv_above c.t bc oc c.e.length)
  rw [← hB]
  have HBB := Lib.hid hB
  clear hw3 g23 hB KN a0
  refine range_O (by omega) (gf := 110) (lb := #[.pointer (some ⟨B, 0, none⟩)]) rfl (enters_of Tryd.func110 (by kernel_rfl) rfl)
    (fv_seq (9 - 1) (by omega) B bc oc c.t w3 w4 hBs HC.out CA.out HD.out G23.out) (fun _ => rfl) KeepP.trans (fun hA g => KeepP.gw (Nat.le_trans HS.out.1 hA) g) (keepP_b HS.out.1)
    (fun pre W => (Boxed W B1 4 (.bool false) ∧ Below w3.heap.size w3 W) ∧ ∀ x ∈ pre, x.1 < c.e.length)
    (fun cc pre W => cc = .ret ∧ (∃ x ∈ pre, c.e.length ≤ x.1) ∧ Boxed W B1 4 (.bool false) ∧ Below w.heap.size w W)
    (fun pre x a' W => a' = { tmps := #[.pointer (some ⟨bc, oc, none⟩), .int .i64 n, .pointer (some ⟨B0, 0, none⟩), undef, .pointer (some ⟨B1, 0, none⟩), .int .i64 (x.1 : Int), .pointer (some ⟨bc, oc, none⟩), .pointer (some ⟨bc, oc, none⟩), .pointer (some ⟨bc, oc + 4, none⟩), .slice c.ea c.e.length c.ec, .int .i64 c.e.length, .bool false, .bool false, .pointer (some ⟨bc, oc, none⟩), .pointer (some ⟨bc, oc, none⟩), .pointer (some ⟨bc, oc, none⟩), .agg #[.int .i64 c.t.k, .int .i64 c.t.v, .slice c.t.da c.t.ds.length c.t.dc, .slice c.t.a c.t.ks.length c.t.cap], .bool true, .bool false, .bool false, .bool false, .pointer (some ⟨bc, oc, none⟩), .pointer (some ⟨bc, oc, none⟩), .pointer (some ⟨bc, oc, none⟩), .int .i64 n, .bool true, .bool false, .bool false, .pointer (some ⟨bc, oc, none⟩), .pointer (some ⟨bc, oc, none⟩), .pointer (some ⟨bc, oc, none⟩), .func (.func 110) #[] #[.pointer (some ⟨B, 0, none⟩)], .int .i64 (x.1 : Int), undef, undef, undef, undef, undef, undef, undef, undef], defers := [] })
    (OwnFrom.and (OwnFrom.and (Own.from (boxed_own _ _ _) _) (ownFrom_below (Nat.le_refl _) HS.out.1)) (fun _ _ _ _ h _ _ => h))
    (fun cc => OwnFrom.and (fun _ _ _ _ h _ _ => h) (OwnFrom.and (fun _ _ _ _ h _ _ => h) (OwnFrom.and (Own.from (boxed_own _ _ _) _) (ownFrom_below (Nat.le_refl _) (Nat.le_trans HS.out.2.1 HS.out.1)))))
    (fun s x a' _ X Y row hs hg hr => hs)
    I0.out
    ?assign ?body ?done ?stop
  case assign =>
    rintro l pre x W K hi hK
    have HI := Lib.hid hi
    have HK := Lib.hid hK
    clear hi hK
    gi_wp2
    exact HK.out _ _ (Gw.refl W) rfl
  case body =>
    rintro l pre x a' W hl hl2 ⟨⟨iR, iB⟩, hall⟩ rfl hlen
    have IR := Lib.hid iR
    have IB := Lib.hid iB
    have HALL := Lib.hid hall
    have hsz : w3.heap.size ≤ W.heap.size := iB.size
    have aB := (show Boxed W B0 81 (.pointer (some ⟨bc, oc, none⟩)) from (iB.block _ BN2.out.lt).trans BN2.out).cell
    have q4 := (AX2.out.grow clGr (show Gw w3 W from iB)).1 4 _ rfl
    have cR := iR.cell
    have fR := iR.frozen
    have KI := Lib.hid (impl_isIndex (x.1 : Int) (c.e.length : Int) W)
    clear iR iB hall
    by_cases hx1 : x.1 < c.e.length
    · have hv : inV (x.1 : Int) 0 ((c.e.length : Int) - 1) = true := decide_eq_true ⟨by omega, by omega⟩
      rw [hv] at KI
      have F := Lib.hid hx1
      clear hx1 hv
      gi_wp2_with fail
      refine (CallsIn.inRound l (callsIn_wide.2 KI.out)).mono ?_
      rintro e W4 ⟨rfl, rfl⟩
      gi_wp2
      exact ⟨keeps_of_gw (Gw.refl _), KeepP.gw hsz (Gw.refl _), ⟨IR.out, IB.out⟩, fun y hy => by
        rcases List.mem_append.1 hy with hy | hy
        · exact HALL.out y hy
        · obtain rfl : y = x := by simpa using hy
          exact F.out⟩
    · have hv : inV (x.1 : Int) 0 ((c.e.length : Int) - 1) = false := decide_eq_false (fun h => hx1 (by omega))
      rw [hv] at KI
      have F := Lib.hid (Nat.le_of_not_lt hx1)
      clear hx1 hv
      gi_wp2_with fail
      refine (CallsIn.inRound l (callsIn_wide.2 KI.out)).mono ?_
      rintro e W4 ⟨rfl, rfl⟩
      gi_wp2
      exact ⟨(KeepsOthers.setCell _ _ _).from _, rfl, ⟨x, by simp, F.out⟩, IR.out.set _, (Below.trans G2.out (IB.out.mono HS.out.2.1)).setCell (p := ⟨B1, 0, none⟩) hB1 _⟩
  case done =>
    rintro D ys W hD hys ⟨⟨iR, iB⟩, hall⟩ hK
    have HE := Lib.hid (show (c.t.co.pl c.e.length 0).any freeP = false by
      rw [LK1.out, ← hys]
      refine List.any_eq_false.2 fun v hv => ?_
      obtain ⟨y, hy, rfl⟩ := List.mem_map.1 hv
      have := hall y hy
      simp; omega)
    have IR := Lib.hid iR
    have cR := iR.cell
    have fR := iR.frozen
    have HKK := Lib.hid hK
    have BB := Lib.hid ((Below.trans G2.out (iB.mono HS.out.2.1)).setCell (p := ⟨B1, 0, none⟩) hB1 (.bool true))
    clear iR iB hK hys hall
    gi_wp2
    have hD2 : B1 ≠ D := by have := HS.out; omega
    have hKD : (W.setCell ⟨B1, 0, none⟩ (.bool true)).heap[D]? = some (.deferred (some [])) := (Below.heap_setCell _ _ _ _ (by simpa using fun e => hD2 e.symm)).trans HKK.out
    have cF : ((W.setCell ⟨B1, 0, none⟩ (.bool true)).putObj D (.deferred none)).cell? ⟨B1, 0, none⟩ = some (.bool true) := Boxed.cell ((World.putObj_heap_other hD2).trans (IR.out.set (.bool true)))
    refine ⟨by simp, .inl ⟨_, _, rfl, run_takeDeferred hKD, ?_⟩⟩
    exact ⟨.bool true, by simp [results, Tryd.results37, go_sem, cF], by rw [HE.out]; rfl, BB.out.trans (belowK_b (w := w) (Nat.le_refl _) _ D _ (.deferred none) (by have := HS.out; omega) hKD rfl rfl)⟩
  case stop =>
    rintro D cc pre W hD ⟨rfl, hex, iR, iB⟩ hK
    have HE := Lib.hid (show (c.t.co.pl c.e.length 0).any freeP = true by
      rw [LK1.out]
      obtain ⟨y, hy, hle⟩ := hex
      exact List.any_eq_true.2 ⟨y.1, y.2, decide_eq_true hle⟩)
    have IR := Lib.hid iR
    have HKK := Lib.hid hK
    have BB := Lib.hid iB
    clear iR iB hK hex
    gi_wp2
    have hD2 : B1 ≠ D := by have := HS.out; omega
    have cF : (W.putObj D (.deferred none)).cell? ⟨B1, 0, none⟩ = some (.bool false) := Boxed.cell ((World.putObj_heap_other hD2).trans IR.out)
    refine ⟨by simp, .inl ⟨_, _, rfl, run_takeDeferred HKK.out, ?_⟩⟩
    exact ⟨.bool false, by simp [results, Tryd.results37, go_sem, cF], by rw [HE.out]; rfl, BB.out.trans (belowK_b (w := w) (Nat.le_refl _) _ D _ (.deferred none) (by have := HS.out; omega) HKK.out rfl rfl)⟩

theorem impl_clo (c : LCl) (n : Nat) (w : World) (bc oc : Nat) (hx : clAt w bc oc c) (hT : KTbl w) : Calls Tryd.prog 37 #[.pointer (some ⟨bc, oc, none⟩), .int .i64 n] w (BoolGw (clG n (fun _ => true) c.pu) w) := by
  have CT := clG_T n c.pu
  by_cases h1 : c.e.length ≤ 256
  rotate_left
  · rw [CT, show decide (c.pu.2.length ≤ 256) = false from decide_eq_false h1]
    exact impl_clo_no1 c n w bc oc hx hT h1
  rw [show decide (c.pu.2.length ≤ 256) = true from decide_eq_true h1, Bool.true_and] at CT
  cases h2 : okC c.t.co && c.t.co.all erH with
  | false =>
    rw [CT, show (okC c.pu.1 && c.pu.1.all erH) = false from h2]
    exact impl_clo_no2 c n w bc oc hx hT h1 h2
  | true =>
  rw [show (okC c.pu.1 && c.pu.1.all erH) = true from h2, Bool.true_and] at CT
  cases h3 : c.t.co.all (refH n) with
  | false =>
    rw [CT, show c.pu.1.all (refH n) = false from h3]
    exact impl_clo_no3 c n w bc oc hx hT h1 h2 h3
  | true =>
  rw [CT, show c.pu.1.all (refH n) = true from h3]
  exact impl_clo_yes c n w bc oc hx hT h1 h2 h3

set_option maxRecDepth 100000 in
set_option maxHeartbeats 4000000 in
theorem impl_fr3 (f : LFr) (n : Nat) (w : World) (bf of : Nat) (hx : frAt w bf of f) (hT : KTbl w) (hk : f.k = 3) : Calls Tryd.prog 35 #[.pointer (some ⟨bf, of, none⟩), .int .i64 n] w (BoolGw (frG n (fun _ => true) f.pu) w) := by
  have AX := Lib.hid hx
  have FE : frG n (fun _ => true) f.pu = (inV f.v 1 6 && (decide (f.d.length = 0) && clG n (fun _ => true) f.c.pu)) := by unfold frG; rw [if_pos (show f.pu.1 = 3 from hk)]; rfl
  have KC0 := fun (W : World) (g : Gw w W) => impl_clo f.c n W bf (of + 3) ((hx.grow frGr g).fc) (hT.grow g)
  have z3 : (f.k != 3) = false := by simpa using hk
  have y1 : (f.k == 1) = false := by simp; omega
  have y2 : (f.k == 2) = false := by simp; omega
  have y3 : (f.k == 3) = true := by simpa using hk
  have c0 := (AX.out.grow frGr (Gw.refl w)).1 0 _ rfl
  have c1 := (AX.out.grow frGr (Gw.refl w)).1 1 _ rfl
  have c2 := (AX.out.grow frGr (Gw.refl w)).1 2 _ rfl
  rw [Nat.add_zero] at c0
  have hdl : f.d.length ≤ 9223372036854775807 := Nat.le_trans hx.2.2.2.1.1 hx.2.2.2.1.2.1
  clear hx hk hT
  have KV0 := impl_isop2 f.v w
  cases h1 : inV f.v 1 6 with
  | false =>
    rw [h1] at KV0
    have KV := Lib.hid KV0
    have F := Lib.hid (show frG n (fun _ => true) f.pu = false by rw [FE, h1]; rfl)
    clear KV0 h1 FE KC0
    go_enter Tryd.func35, Tryd.ntmps35
    go_wp2_with fail
    refine KV.out.mono ?_
    rintro e w1 ⟨rfl, rfl⟩
    go_wp2_with fail
    go_ret
    exact ⟨ret_b F.out.symm, Gw.refl _⟩
  | true =>
  rw [h1] at KV0 FE
  have KV := Lib.hid KV0
  clear KV0 h1
  by_cases h2 : f.d.length = 0
  rotate_left
  · have z2 : ((f.d.length : Int) == 0) = false := beq_eq_false_iff_ne.2 (by omega)
    have F := Lib.hid (show frG n (fun _ => true) f.pu = false by rw [FE, decide_eq_false h2]; rfl)
    clear FE KC0 h2
    go_enter Tryd.func35, Tryd.ntmps35
    go_wp2_with fail
    refine KV.out.mono ?_
    rintro e w1 ⟨rfl, rfl⟩
    go_wp2_with fail
    go_ret
    exact ⟨ret_b F.out.symm, Gw.refl _⟩
  have z2 : ((f.d.length : Int) == 0) = true := beq_iff_eq.2 (by omega)
  have F := Lib.hid (show frG n (fun _ => true) f.pu = clG n (fun _ => true) f.c.pu by rw [FE, decide_eq_true h2]; rfl)
  have KC := Lib.hid KC0
  clear FE KC0 h2
  go_enter Tryd.func35, Tryd.ntmps35
  go_wp2_with fail
  refine KV.out.mono ?_
  rintro e w1 ⟨rfl, rfl⟩
  go_wp2_with fail
  refine (KC.out w (Gw.refl w)).mono ?_
  rintro e w1 ⟨rfl, g1⟩
  rw [← F.out]
  clear c0 c1 c2
  go_wp2_with fail
  go_ret
  exact ⟨rfl, g1⟩

set_option maxRecDepth 100000 in
set_option maxHeartbeats 4000000 in
theorem impl_fr1 (f : LFr) (n : Nat) (w : World) (bf of : Nat) (hx : frAt w bf of f) (hT : KTbl w) (hk : f.k = 1) : Calls Tryd.prog 35 #[.pointer (some ⟨bf, of, none⟩), .int .i64 n] w (BoolGw (frG n (fun _ => true) f.pu) w) := by
  have AX := Lib.hid hx
  have hk3 : f.k ≠ 3 := by omega
  have FE : frG n (fun _ => true) f.pu = (nocC f.c.pu && (true && decide (f.d.length = 0))) := by
    unfold frG
    rw [if_neg (show ¬ f.pu.1 = 3 from hk3), if_pos (show f.pu.1 = 1 ∨ f.pu.1 = 2 from .inl hk)]; rfl
  have KN0 := impl_nc f.c w bf (of + 3) hx.fc
  have z3 : (f.k != 3) = true := by simpa using hk3
  have y1 : (f.k == 1) = true := by simp; omega
  have y2 : (f.k == 2) = false := by simp; omega
  have y3 : (f.k == 3) = false := by simp; omega
  have y4 : (f.k == 4) = false := by simp; omega
  have y5 : (f.k == 5) = false := by simp; omega
  have y6 : (f.k == 6) = false := by simp; omega
  have c0 := (AX.out.grow frGr (Gw.refl w)).1 0 _ rfl
  have c1 := (AX.out.grow frGr (Gw.refl w)).1 1 _ rfl
  have c2 := (AX.out.grow frGr (Gw.refl w)).1 2 _ rfl
  rw [Nat.add_zero] at c0
  have hdl : f.d.length ≤ 9223372036854775807 := Nat.le_trans hx.2.2.2.1.1 hx.2.2.2.1.2.1
  have ND := Lib.hid hx.2.2.2.1
  clear hx hk3 hk hT
  cases hn : nocC f.c.pu with
  | false =>
    rw [hn] at KN0
    have KN := Lib.hid KN0
    have F := Lib.hid (show frG n (fun _ => true) f.pu = false by rw [FE, hn]; rfl)
    clear KN0 hn FE
    go_enter Tryd.func35, Tryd.ntmps35
    go_wp2_with fail
    refine KN.out.mono ?_
    rintro e w1 ⟨rfl, g1⟩
    clear c0 c1 c2
    go_wp2_with fail
    go_ret
    exact ⟨ret_b F.out.symm, g1⟩
  | true =>
  rw [hn] at KN0 FE
  have KN := Lib.hid KN0
  clear KN0 hn
  have F := Lib.hid (show frG n (fun _ => true) f.pu = ((f.d.length : Int) == 0) by
    rw [FE]
    by_cases h2 : f.d.length = 0
    · rw [decide_eq_true h2, beq_iff_eq.2 (show (f.d.length : Int) = 0 by omega)]; rfl
    · rw [decide_eq_false h2, beq_eq_false_iff_ne.2 (show (f.d.length : Int) ≠ 0 by omega)]; rfl)
  clear FE
  go_enter Tryd.func35, Tryd.ntmps35
  go_wp2_with fail
  refine KN.out.mono ?_
  rintro e w1 ⟨rfl, g1⟩
  clear c0 c1 c2
  have c0 := (AX.out.grow frGr g1).1 0 _ rfl
  have c1 := (AX.out.grow frGr g1).1 1 _ rfl
  have c2 := (AX.out.grow frGr g1).1 2 _ rfl
  rw [Nat.add_zero] at c0
  go_wp2_with fail
  go_ret
  exact ⟨ret_b F.out.symm, g1⟩

set_option maxRecDepth 100000 in
set_option maxHeartbeats 4000000 in
theorem impl_fr2 (f : LFr) (n : Nat) (w : World) (bf of : Nat) (hx : frAt w bf of f) (hT : KTbl w) (hk : f.k = 2) : Calls Tryd.prog 35 #[.pointer (some ⟨bf, of, none⟩), .int .i64 n] w (BoolGw (frG n (fun _ => true) f.pu) w) := by
  have AX := Lib.hid hx
  have hk3 : f.k ≠ 3 := by omega
  have FE : frG n (fun _ => true) f.pu = (nocC f.c.pu && (true && decide (f.d.length = 0))) := by
    unfold frG
    rw [if_neg (show ¬ f.pu.1 = 3 from hk3), if_pos (show f.pu.1 = 1 ∨ f.pu.1 = 2 from .inr hk)]; rfl
  have KN0 := impl_nc f.c w bf (of + 3) hx.fc
  have z3 : (f.k != 3) = true := by simpa using hk3
  have y1 : (f.k == 1) = false := by simp; omega
  have y2 : (f.k == 2) = true := by simp; omega
  have y3 : (f.k == 3) = false := by simp; omega
  have y4 : (f.k == 4) = false := by simp; omega
  have y5 : (f.k == 5) = false := by simp; omega
  have y6 : (f.k == 6) = false := by simp; omega
  have c0 := (AX.out.grow frGr (Gw.refl w)).1 0 _ rfl
  have c1 := (AX.out.grow frGr (Gw.refl w)).1 1 _ rfl
  have c2 := (AX.out.grow frGr (Gw.refl w)).1 2 _ rfl
  rw [Nat.add_zero] at c0
  have hdl : f.d.length ≤ 9223372036854775807 := Nat.le_trans hx.2.2.2.1.1 hx.2.2.2.1.2.1
  have ND := Lib.hid hx.2.2.2.1
  clear hx hk3 hk hT
  cases hn : nocC f.c.pu with
  | false =>
    rw [hn] at KN0
    have KN := Lib.hid KN0
    have F := Lib.hid (show frG n (fun _ => true) f.pu = false by rw [FE, hn]; rfl)
    clear KN0 hn FE
    go_enter Tryd.func35, Tryd.ntmps35
    go_wp2_with fail
    refine KN.out.mono ?_
    rintro e w1 ⟨rfl, g1⟩
    clear c0 c1 c2
    go_wp2_with fail
    go_ret
    exact ⟨ret_b F.out.symm, g1⟩
  | true =>
  rw [hn] at KN0 FE
  have KN := Lib.hid KN0
  clear KN0 hn
  have F := Lib.hid (show frG n (fun _ => true) f.pu = ((f.d.length : Int) == 0) by
    rw [FE]
    by_cases h2 : f.d.length = 0
    · rw [decide_eq_true h2, beq_iff_eq.2 (show (f.d.length : Int) = 0 by omega)]; rfl
    · rw [decide_eq_false h2, beq_eq_false_iff_ne.2 (show (f.d.length : Int) ≠ 0 by omega)]; rfl)
  clear FE
  go_enter Tryd.func35, Tryd.ntmps35
  go_wp2_with fail
  refine KN.out.mono ?_
  rintro e w1 ⟨rfl, g1⟩
  clear c0 c1 c2
  have c0 := (AX.out.grow frGr g1).1 0 _ rfl
  have c1 := (AX.out.grow frGr g1).1 1 _ rfl
  have c2 := (AX.out.grow frGr g1).1 2 _ rfl
  rw [Nat.add_zero] at c0
  go_wp2_with fail
  go_ret
  exact ⟨ret_b F.out.symm, g1⟩

set_option maxRecDepth 100000 in
set_option maxHeartbeats 4000000 in
theorem impl_fr4 (f : LFr) (n : Nat) (w : World) (bf of : Nat) (hx : frAt w bf of f) (hT : KTbl w) (hk : f.k = 4) : Calls Tryd.prog 35 #[.pointer (some ⟨bf, of, none⟩), .int .i64 n] w (BoolGw (frG n (fun _ => true) f.pu) w) := by
  have AX := Lib.hid hx
  have hk3 : f.k ≠ 3 := by omega
  have FE : frG n (fun _ => true) f.pu = (nocC f.c.pu && (inV f.v 1 6 && (decide (f.d.length = 1) && inV (f.d.getD 0 0) (-2147483648) 2147483647))) := by
    unfold frG
    rw [if_neg (show ¬ f.pu.1 = 3 from hk3), if_neg (show ¬ (f.pu.1 = 1 ∨ f.pu.1 = 2) by have : f.pu.1 = f.k := rfl; omega), if_pos (show f.pu.1 = 4 from hk)]; rfl
  have KN0 := impl_nc f.c w bf (of + 3) hx.fc
  have z3 : (f.k != 3) = true := by simpa using hk3
  have y1 : (f.k == 1) = false := by simp; omega
  have y2 : (f.k == 2) = false := by simp; omega
  have y3 : (f.k == 3) = false := by simp; omega
  have y4 : (f.k == 4) = true := by simp; omega
  have y5 : (f.k == 5) = false := by simp; omega
  have y6 : (f.k == 6) = false := by simp; omega
  have c0 := (AX.out.grow frGr (Gw.refl w)).1 0 _ rfl
  have c1 := (AX.out.grow frGr (Gw.refl w)).1 1 _ rfl
  have c2 := (AX.out.grow frGr (Gw.refl w)).1 2 _ rfl
  rw [Nat.add_zero] at c0
  have hdl : f.d.length ≤ 9223372036854775807 := Nat.le_trans hx.2.2.2.1.1 hx.2.2.2.1.2.1
  have ND := Lib.hid hx.2.2.2.1
  clear hx hk3 hk hT
  cases hn : nocC f.c.pu with
  | false =>
    rw [hn] at KN0
    have KN := Lib.hid KN0
    have F := Lib.hid (show frG n (fun _ => true) f.pu = false by rw [FE, hn]; rfl)
    clear KN0 hn FE
    go_enter Tryd.func35, Tryd.ntmps35
    go_wp2_with fail
    refine KN.out.mono ?_
    rintro e w1 ⟨rfl, g1⟩
    clear c0 c1 c2
    go_wp2_with fail
    go_ret
    exact ⟨ret_b F.out.symm, g1⟩
  | true =>
  rw [hn] at KN0 FE
  have KN := Lib.hid KN0
  clear KN0 hn
  cases h1 : inV f.v 1 6 with
  | false =>
    have F := Lib.hid (show frG n (fun _ => true) f.pu = false by rw [FE, h1]; rfl)
    have KV := fun W => impl_isop2 f.v W
    rw [h1] at KV
    have KVV := Lib.hid KV
    clear h1 FE KV
    go_enter Tryd.func35, Tryd.ntmps35
    go_wp2_with fail
    refine KN.out.mono ?_
    rintro e w1 ⟨rfl, g1⟩
    clear c0 c1 c2
    have c0 := (AX.out.grow frGr g1).1 0 _ rfl
    have c1 := (AX.out.grow frGr g1).1 1 _ rfl
    have c2 := (AX.out.grow frGr g1).1 2 _ rfl
    rw [Nat.add_zero] at c0
    go_wp2_with fail
    refine (KVV.out w1).mono ?_
    rintro e w5 ⟨rfl, rfl⟩
    go_wp2_with fail
    go_ret
    exact ⟨ret_b F.out.symm, g1⟩
  | true =>
  rw [h1] at FE
  have KV := fun W => impl_isop2 f.v W
  rw [h1] at KV
  have KVV := Lib.hid KV
  clear h1 KV
  by_cases h2 : f.d.length = 1
  rotate_left
  · have z2 : ((f.d.length : Int) == 1) = false := beq_eq_false_iff_ne.2 (by omega)
    have F := Lib.hid (show frG n (fun _ => true) f.pu = false by rw [FE, decide_eq_false h2]; rfl)
    clear FE h2
    go_enter Tryd.func35, Tryd.ntmps35
    go_wp2_with fail
    refine KN.out.mono ?_
    rintro e w1 ⟨rfl, g1⟩
    clear c0 c1 c2
    have c0 := (AX.out.grow frGr g1).1 0 _ rfl
    have c1 := (AX.out.grow frGr g1).1 1 _ rfl
    have c2 := (AX.out.grow frGr g1).1 2 _ rfl
    rw [Nat.add_zero] at c0
    go_wp2_with fail
    refine (KVV.out w1).mono ?_
    rintro e w5 ⟨rfl, rfl⟩
    go_wp2_with fail
    go_ret
    exact ⟨ret_b F.out.symm, g1⟩
  have z2 : ((f.d.length : Int) == 1) = true := beq_iff_eq.2 (by omega)
  have hlt : 0 < f.d.length := by omega
  have FI : frG n (fun _ => true) f.pu = inV f.d[0] (-2147483648) 2147483647 := by
    rw [FE, decide_eq_true h2, List.getD, List.getElem?_eq_getElem hlt]; rfl
  obtain ⟨be, oe, ea, _⟩ := ND.out.2.2.resolve_left (fun e => by rw [e] at hlt; simp at hlt)
  have i1 : (0 : Int) < f.d.length := by omega
  have i2 : ¬ f.d = [] := fun e => by rw [e] at hlt; simp at hlt
  have HLT := Lib.hid hlt
  obtain ⟨dv, hdv⟩ : ∃ v, v = f.d[0] := ⟨_, rfl⟩
  replace FI : frG n (fun _ => true) f.pu = inV dv (-2147483648) 2147483647 := by rw [hdv]; exact FI
  have HDV := Lib.hid hdv
  clear FE h2 ea hdv hlt
  by_cases h3 : -2147483648 ≤ dv
  rotate_left
  · have F := Lib.hid (show frG n (fun _ => true) f.pu = false by rw [FI]; exact decide_eq_false (fun h => h3 h.1))
    clear FI
    go_enter Tryd.func35, Tryd.ntmps35
    go_wp2_with fail
    refine KN.out.mono ?_
    rintro e w1 ⟨rfl, g1⟩
    clear c0 c1 c2
    have c0 := (AX.out.grow frGr g1).1 0 _ rfl
    have c1 := (AX.out.grow frGr g1).1 1 _ rfl
    have c2 := (AX.out.grow frGr g1).1 2 _ rfl
    rw [Nat.add_zero] at c0
    obtain ⟨be', oe', ea', hr⟩ := (numSl.grow ND.out g1).2.2.resolve_left (fun e => by have := HLT.out; rw [e] at this; simp at this)
    rw [ea'] at c2
    have e0 : w1.cell? ⟨be', oe', none⟩ = some (.int .i64 dv) := by
      have h5 := (numRow_get hr 0 HLT.out).1
      rw [Nat.add_zero] at h5
      rw [HDV.out]
      exact h5
    clear hr ea'
    go_wp2_with fail
    refine (KVV.out w1).mono ?_
    rintro e w5 ⟨rfl, rfl⟩
    go_wp2_with fail
    go_ret
    exact ⟨ret_b F.out.symm, g1⟩
  by_cases h4 : dv ≤ 2147483647
  rotate_left
  · have F := Lib.hid (show frG n (fun _ => true) f.pu = false by rw [FI]; exact decide_eq_false (fun h => h4 h.2))
    clear FI
    go_enter Tryd.func35, Tryd.ntmps35
    go_wp2_with fail
    refine KN.out.mono ?_
    rintro e w1 ⟨rfl, g1⟩
    clear c0 c1 c2
    have c0 := (AX.out.grow frGr g1).1 0 _ rfl
    have c1 := (AX.out.grow frGr g1).1 1 _ rfl
    have c2 := (AX.out.grow frGr g1).1 2 _ rfl
    rw [Nat.add_zero] at c0
    obtain ⟨be', oe', ea', hr⟩ := (numSl.grow ND.out g1).2.2.resolve_left (fun e => by have := HLT.out; rw [e] at this; simp at this)
    rw [ea'] at c2
    have e0 : w1.cell? ⟨be', oe', none⟩ = some (.int .i64 dv) := by
      have h5 := (numRow_get hr 0 HLT.out).1
      rw [Nat.add_zero] at h5
      rw [HDV.out]
      exact h5
    clear hr ea'
    go_wp2_with fail
    refine (KVV.out w1).mono ?_
    rintro e w5 ⟨rfl, rfl⟩
    go_wp2_with fail
    go_ret
    exact ⟨ret_b (by rw [F.out]; exact decide_eq_false (by omega)), g1⟩
  have F := Lib.hid (show frG n (fun _ => true) f.pu = true by rw [FI]; exact decide_eq_true ⟨h3, h4⟩)
  clear FI
  go_enter Tryd.func35, Tryd.ntmps35
  go_wp2_with fail
  refine KN.out.mono ?_
  rintro e w1 ⟨rfl, g1⟩
  clear c0 c1 c2
  have c0 := (AX.out.grow frGr g1).1 0 _ rfl
  have c1 := (AX.out.grow frGr g1).1 1 _ rfl
  have c2 := (AX.out.grow frGr g1).1 2 _ rfl
  rw [Nat.add_zero] at c0
  obtain ⟨be', oe', ea', hr⟩ := (numSl.grow ND.out g1).2.2.resolve_left (fun e => by have := HLT.out; rw [e] at this; simp at this)
  rw [ea'] at c2
  have e0 : w1.cell? ⟨be', oe', none⟩ = some (.int .i64 dv) := by
    have h5 := (numRow_get hr 0 HLT.out).1
    rw [Nat.add_zero] at h5
    rw [HDV.out]
    exact h5
  clear hr ea'
  go_wp2_with fail
  refine (KVV.out w1).mono ?_
  rintro e w5 ⟨rfl, rfl⟩
  go_wp2_with fail
  go_ret
  exact ⟨ret_b F.out.symm, g1⟩

set_option maxRecDepth 100000 in
set_option maxHeartbeats 4000000 in
theorem impl_fr5 (f : LFr) (n : Nat) (w : World) (bf of : Nat) (hx : frAt w bf of f) (hT : KTbl w) (hk : f.k = 5) : Calls Tryd.prog 35 #[.pointer (some ⟨bf, of, none⟩), .int .i64 n] w (BoolGw (frG n (fun _ => true) f.pu) w) := by
  have AX := Lib.hid hx
  have hk3 : f.k ≠ 3 := by omega
  have FE : frG n (fun _ => true) f.pu = (nocC f.c.pu && ((f.v == 0) && (inV f.d.length 1 4 && coD f.d n))) := by
    unfold frG
    rw [if_neg (show ¬ f.pu.1 = 3 from hk3), if_neg (show ¬ (f.pu.1 = 1 ∨ f.pu.1 = 2) by have : f.pu.1 = f.k := rfl; omega), if_neg (show ¬ f.pu.1 = 4 by have : f.pu.1 = f.k := rfl; omega), if_pos (show f.pu.1 = 5 from hk)]; rfl
  have KN0 := impl_nc f.c w bf (of + 3) hx.fc
  have z3 : (f.k != 3) = true := by simpa using hk3
  have y1 : (f.k == 1) = false := by simp; omega
  have y2 : (f.k == 2) = false := by simp; omega
  have y3 : (f.k == 3) = false := by simp; omega
  have y4 : (f.k == 4) = false := by simp; omega
  have y5 : (f.k == 5) = true := by simp; omega
  have y6 : (f.k == 6) = false := by simp; omega
  have c0 := (AX.out.grow frGr (Gw.refl w)).1 0 _ rfl
  have c1 := (AX.out.grow frGr (Gw.refl w)).1 1 _ rfl
  have c2 := (AX.out.grow frGr (Gw.refl w)).1 2 _ rfl
  rw [Nat.add_zero] at c0
  have hdl : f.d.length ≤ 9223372036854775807 := Nat.le_trans hx.2.2.2.1.1 hx.2.2.2.1.2.1
  have ND := Lib.hid hx.2.2.2.1
  clear hx hk3 hk hT
  cases hn : nocC f.c.pu with
  | false =>
    rw [hn] at KN0
    have KN := Lib.hid KN0
    have F := Lib.hid (show frG n (fun _ => true) f.pu = false by rw [FE, hn]; rfl)
    clear KN0 hn FE
    go_enter Tryd.func35, Tryd.ntmps35
    go_wp2_with fail
    refine KN.out.mono ?_
    rintro e w1 ⟨rfl, g1⟩
    clear c0 c1 c2
    go_wp2_with fail
    go_ret
    exact ⟨ret_b F.out.symm, g1⟩
  | true =>
  rw [hn] at KN0 FE
  have KN := Lib.hid KN0
  clear KN0 hn
  by_cases h1 : f.v = 0
  rotate_left
  · have z1 : (f.v == 0) = false := by simpa using h1
    have F := Lib.hid (show frG n (fun _ => true) f.pu = false by rw [FE, z1]; rfl)
    clear h1 FE
    go_enter Tryd.func35, Tryd.ntmps35
    go_wp2_with fail
    refine KN.out.mono ?_
    rintro e w1 ⟨rfl, g1⟩
    clear c0 c1 c2
    have c0 := (AX.out.grow frGr g1).1 0 _ rfl
    have c1 := (AX.out.grow frGr g1).1 1 _ rfl
    have c2 := (AX.out.grow frGr g1).1 2 _ rfl
    rw [Nat.add_zero] at c0
    go_wp2_with fail
    go_ret
    exact ⟨ret_b F.out.symm, g1⟩
  have z1 : (f.v == 0) = true := by simpa using h1
  rw [z1] at FE
  clear h1
  by_cases h2 : 1 ≤ f.d.length
  rotate_left
  · have F := Lib.hid (show frG n (fun _ => true) f.pu = false by rw [FE, show inV f.d.length 1 4 = false from decide_eq_false (fun h => h2 (by omega))]; rfl)
    have z2 : decide ((1 : Int) ≤ (f.d.length : Int)) = false := decide_eq_false (by omega)
    clear FE h2
    go_enter Tryd.func35, Tryd.ntmps35
    go_wp2_with fail
    refine KN.out.mono ?_
    rintro e w1 ⟨rfl, g1⟩
    clear c0 c1 c2
    have c0 := (AX.out.grow frGr g1).1 0 _ rfl
    have c1 := (AX.out.grow frGr g1).1 1 _ rfl
    have c2 := (AX.out.grow frGr g1).1 2 _ rfl
    rw [Nat.add_zero] at c0
    go_wp2_with fail
    go_ret
    exact ⟨ret_b F.out.symm, g1⟩
  have z2 : decide ((1 : Int) ≤ (f.d.length : Int)) = true := decide_eq_true (by omega)
  by_cases h3 : f.d.length ≤ 4
  rotate_left
  · have F := Lib.hid (show frG n (fun _ => true) f.pu = false by rw [FE, show inV f.d.length 1 4 = false from decide_eq_false (fun h => h3 (by omega))]; rfl)
    have z4 : decide ((f.d.length : Int) ≤ 4) = false := decide_eq_false (by omega)
    clear FE h2 h3
    go_enter Tryd.func35, Tryd.ntmps35
    go_wp2_with fail
    refine KN.out.mono ?_
    rintro e w1 ⟨rfl, g1⟩
    clear c0 c1 c2
    have c0 := (AX.out.grow frGr g1).1 0 _ rfl
    have c1 := (AX.out.grow frGr g1).1 1 _ rfl
    have c2 := (AX.out.grow frGr g1).1 2 _ rfl
    rw [Nat.add_zero] at c0
    go_wp2_with fail
    go_ret
    exact ⟨ret_b F.out.symm, g1⟩
  have z4 : decide ((f.d.length : Int) ≤ 4) = true := decide_eq_true (by omega)
  have F := Lib.hid (show frG n (fun _ => true) f.pu = coD f.d n by rw [FE, show inV f.d.length 1 4 = true from decide_eq_true ⟨by omega, by omega⟩]; rfl)
  have KD := Lib.hid (fun (W : World) (g : Gw w W) => impl_areIx f.d n W f.da f.dc (numSl.grow ND.out g))
  clear FE h2 h3
  go_enter Tryd.func35, Tryd.ntmps35
  go_wp2_with fail
  refine KN.out.mono ?_
  rintro e w1 ⟨rfl, g1⟩
  clear c0 c1 c2
  have c0 := (AX.out.grow frGr g1).1 0 _ rfl
  have c1 := (AX.out.grow frGr g1).1 1 _ rfl
  have c2 := (AX.out.grow frGr g1).1 2 _ rfl
  rw [Nat.add_zero] at c0
  go_wp2_with fail
  refine (KD.out w1 g1).mono ?_
  rintro e w6 ⟨rfl, g2⟩
  rw [← F.out]
  clear c0 c1 c2
  go_wp2_with fail
  go_ret
  exact ⟨rfl, g1.trans g2⟩

set_option maxRecDepth 100000 in
set_option maxHeartbeats 4000000 in
theorem impl_fr6 (f : LFr) (n : Nat) (w : World) (bf of : Nat) (hx : frAt w bf of f) (hT : KTbl w) (hk : f.k = 6) : Calls Tryd.prog 35 #[.pointer (some ⟨bf, of, none⟩), .int .i64 n] w (BoolGw (frG n (fun _ => true) f.pu) w) := by
  have AX := Lib.hid hx
  have hk3 : f.k ≠ 3 := by omega
  have FE : frG n (fun _ => true) f.pu = (nocC f.c.pu && ((f.v == 0) && (decide (f.d.length = 2) && coD f.d n))) := by
    unfold frG
    rw [if_neg (show ¬ f.pu.1 = 3 from hk3), if_neg (show ¬ (f.pu.1 = 1 ∨ f.pu.1 = 2) by have : f.pu.1 = f.k := rfl; omega), if_neg (show ¬ f.pu.1 = 4 by have : f.pu.1 = f.k := rfl; omega), if_neg (show ¬ f.pu.1 = 5 by have : f.pu.1 = f.k := rfl; omega), if_pos (show f.pu.1 = 6 from hk)]; rfl
  have KN0 := impl_nc f.c w bf (of + 3) hx.fc
  have z3 : (f.k != 3) = true := by simpa using hk3
  have y1 : (f.k == 1) = false := by simp; omega
  have y2 : (f.k == 2) = false := by simp; omega
  have y3 : (f.k == 3) = false := by simp; omega
  have y4 : (f.k == 4) = false := by simp; omega
  have y5 : (f.k == 5) = false := by simp; omega
  have y6 : (f.k == 6) = true := by simp; omega
  have c0 := (AX.out.grow frGr (Gw.refl w)).1 0 _ rfl
  have c1 := (AX.out.grow frGr (Gw.refl w)).1 1 _ rfl
  have c2 := (AX.out.grow frGr (Gw.refl w)).1 2 _ rfl
  rw [Nat.add_zero] at c0
  have hdl : f.d.length ≤ 9223372036854775807 := Nat.le_trans hx.2.2.2.1.1 hx.2.2.2.1.2.1
  have ND := Lib.hid hx.2.2.2.1
  clear hx hk3 hk hT
  cases hn : nocC f.c.pu with
  | false =>
    rw [hn] at KN0
    have KN := Lib.hid KN0
    have F := Lib.hid (show frG n (fun _ => true) f.pu = false by rw [FE, hn]; rfl)
    clear KN0 hn FE
    go_enter Tryd.func35, Tryd.ntmps35
    go_wp2_with fail
    refine KN.out.mono ?_
    rintro e w1 ⟨rfl, g1⟩
    clear c0 c1 c2
    go_wp2_with fail
    go_ret
    exact ⟨ret_b F.out.symm, g1⟩
  | true =>
  rw [hn] at KN0 FE
  have KN := Lib.hid KN0
  clear KN0 hn
  by_cases h1 : f.v = 0
  rotate_left
  · have z1 : (f.v == 0) = false := by simpa using h1
    have F := Lib.hid (show frG n (fun _ => true) f.pu = false by rw [FE, z1]; rfl)
    clear h1 FE
    go_enter Tryd.func35, Tryd.ntmps35
    go_wp2_with fail
    refine KN.out.mono ?_
    rintro e w1 ⟨rfl, g1⟩
    clear c0 c1 c2
    have c0 := (AX.out.grow frGr g1).1 0 _ rfl
    have c1 := (AX.out.grow frGr g1).1 1 _ rfl
    have c2 := (AX.out.grow frGr g1).1 2 _ rfl
    rw [Nat.add_zero] at c0
    go_wp2_with fail
    go_ret
    exact ⟨ret_b F.out.symm, g1⟩
  have z1 : (f.v == 0) = true := by simpa using h1
  rw [z1] at FE
  clear h1
  by_cases h2 : f.d.length = 2
  rotate_left
  · have z2 : ((f.d.length : Int) == 2) = false := beq_eq_false_iff_ne.2 (by omega)
    have F := Lib.hid (show frG n (fun _ => true) f.pu = false by rw [FE, decide_eq_false h2]; rfl)
    clear FE h2
    go_enter Tryd.func35, Tryd.ntmps35
    go_wp2_with fail
    refine KN.out.mono ?_
    rintro e w1 ⟨rfl, g1⟩
    clear c0 c1 c2
    have c0 := (AX.out.grow frGr g1).1 0 _ rfl
    have c1 := (AX.out.grow frGr g1).1 1 _ rfl
    have c2 := (AX.out.grow frGr g1).1 2 _ rfl
    rw [Nat.add_zero] at c0
    go_wp2_with fail
    go_ret
    exact ⟨ret_b F.out.symm, g1⟩
  have z2 : ((f.d.length : Int) == 2) = true := beq_iff_eq.2 (by omega)
  have F := Lib.hid (show frG n (fun _ => true) f.pu = coD f.d n by rw [FE, decide_eq_true h2]; rfl)
  have KD := Lib.hid (fun (W : World) (g : Gw w W) => impl_areIx f.d n W f.da f.dc (numSl.grow ND.out g))
  clear FE h2
  go_enter Tryd.func35, Tryd.ntmps35
  go_wp2_with fail
  refine KN.out.mono ?_
  rintro e w1 ⟨rfl, g1⟩
  clear c0 c1 c2
  have c0 := (AX.out.grow frGr g1).1 0 _ rfl
  have c1 := (AX.out.grow frGr g1).1 1 _ rfl
  have c2 := (AX.out.grow frGr g1).1 2 _ rfl
  rw [Nat.add_zero] at c0
  go_wp2_with fail
  refine (KD.out w1 g1).mono ?_
  rintro e w6 ⟨rfl, g2⟩
  rw [← F.out]
  clear c0 c1 c2
  go_wp2_with fail
  go_ret
  exact ⟨rfl, g1.trans g2⟩

set_option maxRecDepth 100000 in
set_option maxHeartbeats 4000000 in
theorem impl_fr0 (f : LFr) (n : Nat) (w : World) (bf of : Nat) (hx : frAt w bf of f) (hT : KTbl w) (hk : f.k ≠ 1 ∧ f.k ≠ 2 ∧ f.k ≠ 3 ∧ f.k ≠ 4 ∧ f.k ≠ 5 ∧ f.k ≠ 6) : Calls Tryd.prog 35 #[.pointer (some ⟨bf, of, none⟩), .int .i64 n] w (BoolGw (frG n (fun _ => true) f.pu) w) := by
  have AX := Lib.hid hx
  have hk3 : f.k ≠ 3 := by omega
  have FE : frG n (fun _ => true) f.pu = (nocC f.c.pu && false) := by
    unfold frG
    rw [if_neg (show ¬ f.pu.1 = 3 from hk3), if_neg (show ¬ (f.pu.1 = 1 ∨ f.pu.1 = 2) by have : f.pu.1 = f.k := rfl; omega), if_neg (show ¬ f.pu.1 = 4 by have : f.pu.1 = f.k := rfl; omega), if_neg (show ¬ f.pu.1 = 5 by have : f.pu.1 = f.k := rfl; omega), if_neg (show ¬ f.pu.1 = 6 by have : f.pu.1 = f.k := rfl; omega)]; rfl
  have KN0 := impl_nc f.c w bf (of + 3) hx.fc
  have z3 : (f.k != 3) = true := by simpa using hk3
  have y1 : (f.k == 1) = false := by simp; omega
  have y2 : (f.k == 2) = false := by simp; omega
  have y3 : (f.k == 3) = false := by simp; omega
  have y4 : (f.k == 4) = false := by simp; omega
  have y5 : (f.k == 5) = false := by simp; omega
  have y6 : (f.k == 6) = false := by simp; omega
  have c0 := (AX.out.grow frGr (Gw.refl w)).1 0 _ rfl
  have c1 := (AX.out.grow frGr (Gw.refl w)).1 1 _ rfl
  have c2 := (AX.out.grow frGr (Gw.refl w)).1 2 _ rfl
  rw [Nat.add_zero] at c0
  have hdl : f.d.length ≤ 9223372036854775807 := Nat.le_trans hx.2.2.2.1.1 hx.2.2.2.1.2.1
  have ND := Lib.hid hx.2.2.2.1
  clear hx hk3 hk hT
  cases hn : nocC f.c.pu with
  | false =>
    rw [hn] at KN0
    have KN := Lib.hid KN0
    have F := Lib.hid (show frG n (fun _ => true) f.pu = false by rw [FE, hn]; rfl)
    clear KN0 hn FE
    go_enter Tryd.func35, Tryd.ntmps35
    go_wp2_with fail
    refine KN.out.mono ?_
    rintro e w1 ⟨rfl, g1⟩
    clear c0 c1 c2
    go_wp2_with fail
    go_ret
    exact ⟨ret_b F.out.symm, g1⟩
  | true =>
  rw [hn] at KN0 FE
  have KN := Lib.hid KN0
  clear KN0 hn
  have F := Lib.hid (show frG n (fun _ => true) f.pu = false by rw [FE]; rfl)
  clear FE
  go_enter Tryd.func35, Tryd.ntmps35
  go_wp2_with fail
  refine KN.out.mono ?_
  rintro e w1 ⟨rfl, g1⟩
  clear c0 c1 c2
  have c0 := (AX.out.grow frGr g1).1 0 _ rfl
  have c1 := (AX.out.grow frGr g1).1 1 _ rfl
  have c2 := (AX.out.grow frGr g1).1 2 _ rfl
  rw [Nat.add_zero] at c0
  go_wp2_with fail
  go_ret
  exact ⟨ret_b F.out.symm, g1⟩

theorem impl_frame (f : LFr) (n : Nat) (w : World) (bf of : Nat) (hx : frAt w bf of f) (hT : KTbl w) : Calls Tryd.prog 35 #[.pointer (some ⟨bf, of, none⟩), .int .i64 n] w (BoolGw (frG n (fun _ => true) f.pu) w) := by
  by_cases h3 : f.k = 3
  · exact impl_fr3 f n w bf of hx hT h3
  by_cases h1 : f.k = 1
  · exact impl_fr1 f n w bf of hx hT h1
  by_cases h2 : f.k = 2
  · exact impl_fr2 f n w bf of hx hT h2
  by_cases h4 : f.k = 4
  · exact impl_fr4 f n w bf of hx hT h4
  by_cases h5 : f.k = 5
  · exact impl_fr5 f n w bf of hx hT h5
  by_cases h6 : f.k = 6
  · exact impl_fr6 f n w bf of hx hT h6
  exact impl_fr0 f n w bf of hx hT ⟨h1, h2, h3, h4, h5, h6⟩

set_option maxRecDepth 100000 in
theorem impl_c1 (x : LFr) (n : Nat) (bD : Nat) (w : World) (hx : frOk w x) (hD : w.cell? ⟨bD, 0, none⟩ = some (.int .i64 n)) (hT : KTbl w) : Calls Tryd.prog 34 #[x.val, .pointer (some ⟨bD, 0, none⟩)] w (BoolGw (!(frG n (fun _ => true) x.pu)) w) := by
  have gA := (Gw.refl w).alloc (.cells #[.int .i64 x.k, .int .i64 x.v, .slice x.da x.d.length x.dc, .int .i64 x.c.t.k, .int .i64 x.c.t.v, .slice x.c.t.da x.c.t.ds.length x.c.t.dc, .slice x.c.t.a x.c.t.ks.length x.c.t.cap, .slice x.c.ea x.c.e.length x.c.ec] 74)
  have AX := Lib.hid (gAt.new frGr (w := w) (cs := #[.int .i64 x.k, .int .i64 x.v, .slice x.da x.d.length x.dc, .int .i64 x.c.t.k, .int .i64 x.c.t.v, .slice x.c.t.da x.c.t.ds.length x.c.t.dc, .slice x.c.t.a x.c.t.ks.length x.c.t.cap, .slice x.c.ea x.c.e.length x.c.ec]) (e := 74) rfl hx : frAt _ _ 0 x)
  have d0 := gA.cell hD (cell_lt hD)
  have TB := Lib.hid (hT.grow gA)
  have GA := Lib.hid gA
  clear hx hD hT gA
  go_enter Tryd.func34, Tryd.ntmps34
  go_upto_region 1 with (fail)
  generalize w.alloc (.cells #[.int .i64 x.k, .int .i64 x.v, .slice x.da x.d.length x.dc, .int .i64 x.c.t.k, .int .i64 x.c.t.v, .slice x.c.t.da x.c.t.ds.length x.c.t.dc, .slice x.c.t.a x.c.t.ks.length x.c.t.cap, .slice x.c.ea x.c.e.length x.c.ec] 74) = w1 at *
  have KF := Lib.hid (impl_frame x n w1 _ 0 AX.out TB.out)
  go_wp2_with fail
  refine KF.out.mono ?_
  rintro e w2 ⟨rfl, g2⟩
  clear d0
  go_wp2_with fail
  go_ret
  exact ⟨rfl, GA.out.trans g2⟩

set_option maxRecDepth 100000 in
theorem impl_c2 (x : LTh) (n : Nat) (bD : Nat) (w : World) (hx : thOk w x) (hD : w.cell? ⟨bD, 0, none⟩ = some (.int .i64 n)) (hT : KTbl w) : Calls Tryd.prog 36 #[x.val, .pointer (some ⟨bD, 0, none⟩)] w (BoolGw (!(thG n (fun _ => true) x.pu)) w) := by
  have gA := (Gw.refl w).alloc (.cells #[.bool x.b, .int .i64 x.c.t.k, .int .i64 x.c.t.v, .slice x.c.t.da x.c.t.ds.length x.c.t.dc, .slice x.c.t.a x.c.t.ks.length x.c.t.cap, .slice x.c.ea x.c.e.length x.c.ec] 79)
  have AX := Lib.hid (gAt.new thGr (w := w) (cs := #[.bool x.b, .int .i64 x.c.t.k, .int .i64 x.c.t.v, .slice x.c.t.da x.c.t.ds.length x.c.t.dc, .slice x.c.t.a x.c.t.ks.length x.c.t.cap, .slice x.c.ea x.c.e.length x.c.ec]) (e := 79) rfl hx : thAt _ _ 0 x)
  have d0 := gA.cell hD (cell_lt hD)
  have TB := Lib.hid (hT.grow gA)
  have GA := Lib.hid gA
  clear hx hD hT gA
  go_enter Tryd.func36, Tryd.ntmps36
  go_upto_region 1 with (fail)
  generalize w.alloc (.cells #[.bool x.b, .int .i64 x.c.t.k, .int .i64 x.c.t.v, .slice x.c.t.da x.c.t.ds.length x.c.t.dc, .slice x.c.t.a x.c.t.ks.length x.c.t.cap, .slice x.c.ea x.c.e.length x.c.ec] 79) = w1 at *
  have KC0 := impl_clo x.c n w1 w.heap.size 1 (by have := AX.out.hc; rwa [Nat.zero_add] at this) TB.out
  have TE : thG n (fun _ => true) x.pu = (clG n (fun _ => true) x.c.pu && (!x.b || valC x.c.pu)) := rfl
  cases h1 : clG n (fun _ => true) x.c.pu with
  | false =>
    rw [h1] at KC0
    have KC := Lib.hid KC0
    have F := Lib.hid (show thG n (fun _ => true) x.pu = false by rw [TE, h1]; rfl)
    clear KC0 h1 TE
    go_wp2_with fail
    refine KC.out.mono ?_
    rintro e w2 ⟨rfl, g2⟩
    clear d0
    go_wp2_with fail
    go_ret
    exact ⟨ret_b (by rw [F.out]; rfl), GA.out.trans g2⟩
  | true =>
  rw [h1] at KC0 TE
  have KC := Lib.hid KC0
  clear KC0 h1
  cases hb : x.b with
  | false =>
    have F := Lib.hid (show thG n (fun _ => true) x.pu = true by rw [TE, hb]; rfl)
    have HB := Lib.hid hb
    clear TE hb
    go_wp2_with fail
    refine KC.out.mono ?_
    rintro e w2 ⟨rfl, g2⟩
    have t0 := (AX.out.grow thGr g2).1 0 _ rfl
    rw [Nat.add_zero, HB.out] at t0
    clear d0
    go_wp2_with fail
    go_ret
    exact ⟨ret_b (by rw [F.out]; rfl), GA.out.trans g2⟩
  | true =>
    have F := Lib.hid (show thG n (fun _ => true) x.pu = valC x.c.pu by rw [TE, hb]; rfl)
    have HB := Lib.hid hb
    clear TE hb
    go_wp2_with fail
    refine KC.out.mono ?_
    rintro e w2 ⟨rfl, g2⟩
    have t0 := (AX.out.grow thGr g2).1 0 _ rfl
    rw [Nat.add_zero, HB.out] at t0
    have KV := Lib.hid (impl_iv x.c w2 w.heap.size 1 (by have := (AX.out.grow thGr g2).hc; rwa [Nat.zero_add] at this))
    have G2 := Lib.hid (GA.out.trans g2)
    clear d0 g2
    go_wp2_with fail
    refine KV.out.mono ?_
    rintro e w3 ⟨rfl, g3⟩
    clear t0
    go_wp2_with fail
    go_ret
    exact ⟨ret_b (by rw [F.out]), G2.out.trans g3⟩

set_option maxRecDepth 100000 in
set_option maxHeartbeats 1000000 in
theorem impl_anyFr_ix (xs : List LFr) (n : Nat) (bD : Nat) (w : World) (a : Option Addr) (cap : Nat) (h : frSl w a cap xs) (hD : w.cell? ⟨bD, 0, none⟩ = some (.int .i64 n)) (hT : KTbl w) :
    Calls Tryd.prog 82 #[.slice a xs.length cap, .func (.func 34) #[] #[.pointer (some ⟨bD, 0, none⟩)]] w fun e w' => ∃ r : Int, e = .returned (.int .i64 r) ∧ decide (0 ≤ r) = !((xs.map LFr.pu).all (frG n (fun _ => true))) ∧ Gw w w' := by
  have hl : xs.length ≤ 9223372036854775807 := Nat.le_trans h.1 h.2.1
  have OB := Lib.hid h
  have TB := Lib.hid hT
  have HD := Lib.hid hD
  clear h hT hD
  go_enter Tryd.func82, Tryd.ntmps82
  go_wp2_with fail
  go_loopw [8] (fun i wr => ∃ j : Nat, j ≤ xs.length ∧ i = .int .i64 j ∧ (∀ i (hi : i < xs.length), i < j → frG n (fun _ => true) xs[i].pu = true) ∧ Gw w wr) (fun i _ => xs.length - (intOf i).toNat)
  case atStart => exact ⟨0, by omega, rfl, fun i _ h => absurd h (by omega), Gw.refl _⟩
  case round =>
    obtain ⟨j, hj, rfl, hall, hg⟩ := hrel
    have HALL := Lib.hid hall
    have HG := Lib.hid hg
    clear hall
    by_cases hlt : j < xs.length
    · obtain ⟨b, o, rfl, hk⟩ := gAt.row (gSl.grow frLen frGr OB.out hg) j hlt
      obtain ⟨x, hx⟩ : ∃ x, x = xs[j] := ⟨_, rfl⟩
      rw [← hx] at hk
      have c0 := hk.1 0 _ rfl
      have c1 := hk.1 1 _ rfl
      have c2 := hk.1 2 _ rfl
      have c3 := hk.1 3 _ rfl
      have c4 := hk.1 4 _ rfl
      have c5 := hk.1 5 _ rfl
      have c6 := hk.1 6 _ rfl
      have c7 := hk.1 7 _ rfl
      rw [Nat.add_zero] at c0
      have q0 : (0 : Int) ≤ j := by omega
      have q1 : (j : Int) < xs.length := by omega
      have KEY0 := impl_c1 x n bD wr hk.2 (hg.cell HD.out (cell_lt HD.out)) (TB.out.grow hg)
      have HX := Lib.hid hx
      clear hk hg hx
      cases he : frG n (fun _ => true) x.pu with
      | false =>
        rw [he] at KEY0
        have KEY := Lib.hid KEY0
        have F := Lib.hid (show (xs.map LFr.pu).all (frG n (fun _ => true)) = false from List.all_eq_false.2 ⟨x.pu, by rw [HX.out]; exact List.mem_map_of_mem (List.getElem_mem hlt), by rw [he]; simp⟩)
        clear KEY0 he
        go_wp2_with fail
        refine KEY.out.mono ?_
        rintro e w1 ⟨rfl, hg1⟩
        clear c0 c1 c2 c3 c4 c5 c6 c7
        go_wp2_with fail
        go_ret
        exact ⟨j, rfl, by rw [F.out, decide_eq_true (by omega)]; rfl, HG.out.trans hg1⟩
      | true =>
        rw [he] at KEY0
        have KEY := Lib.hid KEY0
        have HE := Lib.hid (show frG n (fun _ => true) xs[j].pu = true by rw [← HX.out]; exact he)
        clear KEY0 he
        go_wp2_with fail
        refine KEY.out.mono ?_
        rintro e w1 ⟨rfl, hg1⟩
        have G1 := Lib.hid (HG.out.trans hg1)
        clear c0 c1 c2 c3 c4 c5 c6 c7 hg1
        go_wp2_with fail
        go_roundw
        case rel =>
          refine ⟨j + 1, by omega, by go_num, fun i hi hij => ?_, G1.out⟩
          by_cases e : i = j
          · subst e; exact HE.out
          · exact HALL.out i hi (by omega)
        case measure => simp [intOf]; omega
    · have q1 : ¬ ((j : Int) < xs.length) := by omega
      have FF := Lib.hid (show (xs.map LFr.pu).all (frG n (fun _ => true)) = true from List.all_eq_true.2 fun d hd => by
        obtain ⟨z, hz, rfl⟩ := List.mem_map.1 hd
        obtain ⟨i, hi, rfl⟩ := List.mem_iff_getElem.1 hz
        exact HALL.out i hi (by omega))
      clear hg
      go_wp2_with fail
      go_ret
      exact ⟨-1, rfl, by have e := FF.out; rw [List.all_map] at e; rw [e]; rfl, HG.out⟩
theorem impl_anyFr (xs : List LFr) (n : Nat) (bD : Nat) (w : World) (a : Option Addr) (cap : Nat) (h : frSl w a cap xs) (hD : w.cell? ⟨bD, 0, none⟩ = some (.int .i64 n)) (hT : KTbl w) :
    Calls Tryd.prog 40 #[.slice a xs.length cap, .func (.func 34) #[] #[.pointer (some ⟨bD, 0, none⟩)]] w (BoolGw (!((xs.map LFr.pu).all (frG n (fun _ => true)))) w) := by
  have KEY := Lib.hid (impl_anyFr_ix xs n bD w a cap h hD hT)
  clear h hT hD
  go_enter Tryd.func40, Tryd.ntmps40
  go_wp2_with fail
  refine KEY.out.mono ?_
  rintro e w1 ⟨r, rfl, hr, g1⟩
  have HR := Lib.hid hr
  clear hr
  go_wp2_with fail
  go_ret
  exact ⟨ret_b (by rw [← HR.out]), g1⟩

set_option maxRecDepth 100000 in
set_option maxHeartbeats 1000000 in
theorem impl_anyTh_ix (xs : List LTh) (n : Nat) (bD : Nat) (w : World) (a : Option Addr) (cap : Nat) (h : thSl w a cap xs) (hD : w.cell? ⟨bD, 0, none⟩ = some (.int .i64 n)) (hT : KTbl w) :
    Calls Tryd.prog 83 #[.slice a xs.length cap, .func (.func 36) #[] #[.pointer (some ⟨bD, 0, none⟩)]] w fun e w' => ∃ r : Int, e = .returned (.int .i64 r) ∧ decide (0 ≤ r) = !((xs.map LTh.pu).all (thG n (fun _ => true))) ∧ Gw w w' := by
  have hl : xs.length ≤ 9223372036854775807 := Nat.le_trans h.1 h.2.1
  have OB := Lib.hid h
  have TB := Lib.hid hT
  have HD := Lib.hid hD
  clear h hT hD
  go_enter Tryd.func83, Tryd.ntmps83
  go_wp2_with fail
  go_loopw [8] (fun i wr => ∃ j : Nat, j ≤ xs.length ∧ i = .int .i64 j ∧ (∀ i (hi : i < xs.length), i < j → thG n (fun _ => true) xs[i].pu = true) ∧ Gw w wr) (fun i _ => xs.length - (intOf i).toNat)
  case atStart => exact ⟨0, by omega, rfl, fun i _ h => absurd h (by omega), Gw.refl _⟩
  case round =>
    obtain ⟨j, hj, rfl, hall, hg⟩ := hrel
    have HALL := Lib.hid hall
    have HG := Lib.hid hg
    clear hall
    by_cases hlt : j < xs.length
    · obtain ⟨b, o, rfl, hk⟩ := gAt.row (gSl.grow thLen thGr OB.out hg) j hlt
      obtain ⟨x, hx⟩ : ∃ x, x = xs[j] := ⟨_, rfl⟩
      rw [← hx] at hk
      have c0 := hk.1 0 _ rfl
      have c1 := hk.1 1 _ rfl
      have c2 := hk.1 2 _ rfl
      have c3 := hk.1 3 _ rfl
      have c4 := hk.1 4 _ rfl
      have c5 := hk.1 5 _ rfl
      rw [Nat.add_zero] at c0
      have q0 : (0 : Int) ≤ j := by omega
      have q1 : (j : Int) < xs.length := by omega
      have KEY0 := impl_c2 x n bD wr hk.2 (hg.cell HD.out (cell_lt HD.out)) (TB.out.grow hg)
      have HX := Lib.hid hx
      clear hk hg hx
      cases he : thG n (fun _ => true) x.pu with
      | false =>
        rw [he] at KEY0
        have KEY := Lib.hid KEY0
        have F := Lib.hid (show (xs.map LTh.pu).all (thG n (fun _ => true)) = false from List.all_eq_false.2 ⟨x.pu, by rw [HX.out]; exact List.mem_map_of_mem (List.getElem_mem hlt), by rw [he]; simp⟩)
        clear KEY0 he
        go_wp2_with fail
        refine KEY.out.mono ?_
        rintro e w1 ⟨rfl, hg1⟩
        clear c0 c1 c2 c3 c4 c5
        go_wp2_with fail
        go_ret
        exact ⟨j, rfl, by rw [F.out, decide_eq_true (by omega)]; rfl, HG.out.trans hg1⟩
      | true =>
        rw [he] at KEY0
        have KEY := Lib.hid KEY0
        have HE := Lib.hid (show thG n (fun _ => true) xs[j].pu = true by rw [← HX.out]; exact he)
        clear KEY0 he
        go_wp2_with fail
        refine KEY.out.mono ?_
        rintro e w1 ⟨rfl, hg1⟩
        have G1 := Lib.hid (HG.out.trans hg1)
        clear c0 c1 c2 c3 c4 c5 hg1
        go_wp2_with fail
        go_roundw
        case rel =>
          refine ⟨j + 1, by omega, by go_num, fun i hi hij => ?_, G1.out⟩
          by_cases e : i = j
          · subst e; exact HE.out
          · exact HALL.out i hi (by omega)
        case measure => simp [intOf]; omega
    · have q1 : ¬ ((j : Int) < xs.length) := by omega
      have FF := Lib.hid (show (xs.map LTh.pu).all (thG n (fun _ => true)) = true from List.all_eq_true.2 fun d hd => by
        obtain ⟨z, hz, rfl⟩ := List.mem_map.1 hd
        obtain ⟨i, hi, rfl⟩ := List.mem_iff_getElem.1 hz
        exact HALL.out i hi (by omega))
      clear hg
      go_wp2_with fail
      go_ret
      exact ⟨-1, rfl, by have e := FF.out; rw [List.all_map] at e; rw [e]; rfl, HG.out⟩
theorem impl_anyTh (xs : List LTh) (n : Nat) (bD : Nat) (w : World) (a : Option Addr) (cap : Nat) (h : thSl w a cap xs) (hD : w.cell? ⟨bD, 0, none⟩ = some (.int .i64 n)) (hT : KTbl w) :
    Calls Tryd.prog 41 #[.slice a xs.length cap, .func (.func 36) #[] #[.pointer (some ⟨bD, 0, none⟩)]] w (BoolGw (!((xs.map LTh.pu).all (thG n (fun _ => true)))) w) := by
  have KEY := Lib.hid (impl_anyTh_ix xs n bD w a cap h hD hT)
  clear h hT hD
  go_enter Tryd.func41, Tryd.ntmps41
  go_wp2_with fail
  refine KEY.out.mono ?_
  rintro e w1 ⟨r, rfl, hr, g1⟩
  have HR := Lib.hid hr
  clear hr
  go_wp2_with fail
  go_ret
  exact ⟨ret_b (by rw [← HR.out]), g1⟩

end Go.Proofs.YtkpbiifikkbaeaaDoor.Con
