/-
  Contracts of the model's l06Book and ValidBook. Condition: the book lies in memory.
-/
import Derived.Test.YtclandjgipfonaaDoorBkSp
import Derived.Deep.RegionHeld3
import Derived.Deep.Cut
namespace Go.Proofs.YtclandjgipfonaaDoor.Con
open Go.RowKit
set_option linter.unusedVariables false
attribute [local go_sem] Oper.semAt_some

def bkC (ts : List Co) : Bool := inV ts.length 1 24 && ts.all fun t => closC t && t.all (refH ts.length)
theorem bkC_len {ts : List Co} (h : inV ts.length 1 24 = false) : bkC ts = false := by unfold bkC; rw [h]; rfl
theorem bkC_bad {u : LB} (j : Nat) (hj : j < u.ks.length) (h : (closC u.ks[j].co && u.ks[j].co.all (refH u.ks.length)) = false) : bkC u.cs = false := by
  have hl : u.cs.length = u.ks.length := by simp [LB.cs]
  unfold bkC
  rw [show (u.cs.all fun t => closC t && t.all (refH u.cs.length)) = false from List.all_eq_false.2 ⟨u.ks[j].co, List.mem_map_of_mem (List.getElem_mem hj), by rw [hl, h]; simp⟩, Bool.and_false]
theorem bkC_yes {u : LB} (h0 : inV u.ks.length 1 24 = true) (h : ∀ j (hj : j < u.ks.length), (closC u.ks[j].co && u.ks[j].co.all (refH u.ks.length)) = true) : bkC u.cs = true := by
  have hl : u.cs.length = u.ks.length := by simp [LB.cs]
  unfold bkC
  rw [hl, h0, Bool.true_and]
  refine List.all_eq_true.2 fun t ht => ?_
  obtain ⟨s, hs, rfl⟩ := List.mem_map.1 ht
  obtain ⟨i, hi, rfl⟩ := List.mem_iff_getElem.1 hs
  exact h i hi

set_option maxRecDepth 100000 in
set_option maxHeartbeats 2000000 in
theorem spec_l06Book (u : LB) (w : World) (b : Nat) (h : bOk w u) (hB : BoxB w b u) : Calls Tryd.prog 73 #[.pointer (some ⟨b, 0, none⟩)] w (BoolGw (bkC u.cs) w) := by
  have hll := h.len
  have A := Lib.hid h
  have BB := Lib.hid hB
  have p0 := hB.c
  clear h hB
  go_enter Tryd.func73, Tryd.ntmps73
  go_wp2_with fail
  refine (specIn u.ks.length 1 24 _).mono ?_
  rintro e w1 ⟨rfl, rfl⟩
  cases hn : inV u.ks.length 1 24 with
  | false =>
    have F := Lib.hid (show bkC u.cs = false from bkC_len (by rw [show u.cs.length = u.ks.length by simp [LB.cs]]; exact hn))
    clear hn
    go_wp2_with fail
    go_ret
    exact ⟨ret_b F.out.symm, Gw.refl _⟩
  | true =>
  have HN := Lib.hid hn
  clear hn
  go_wp2_with fail
  clear p0
  go_loopw [3] (fun i wr => ∃ j : Nat, j ≤ u.ks.length ∧ i = .int .i64 j ∧ Gw w wr ∧ ∀ x (hx : x < u.ks.length), x < j → (closC u.ks[x].co && u.ks[x].co.all (refH u.ks.length)) = true) (fun i _ => u.ks.length - (intOf i).toNat)
  case atStart => exact ⟨0, by omega, rfl, Gw.refl _, fun x _ h => absurd h (by omega)⟩
  case round =>
    obtain ⟨j, hj, rfl, hg, hall⟩ := hrel
    have HALL := Lib.hid hall
    have HG := Lib.hid hg
    have p0 := (BB.out.grow hg).c
    clear hall
    by_cases hlt : j < u.ks.length
    · obtain ⟨bk, ok, ha, hkid⟩ := coAt.kid (A.out.grow hg) j hlt
      rw [ha] at p0
      have r0 : (0 : Int) ≤ j := by omega
      have r1 : (j : Int) < u.ks.length := by omega
      have HK := Lib.hid hkid
      have BD := Lib.hid (bkC_bad (u := u) j hlt)
      have hlb := cell_lt p0
      clear ha hkid hg
      go_wp2_with fail
      cases hc : closC u.ks[j].co with
      | false =>
        have FF := Lib.hid (BD.out (by rw [hc]; rfl))
        have HC := Lib.hid hc
        clear hc
        refine wp_region_held_drew (S := fun W => W.cell? ⟨b, 0, none⟩ = some (.slice (some ⟨bk, ok, none⟩) u.ks.length u.cap)) (by kernel_rfl) ?_ (fun hHeld => ?_)
        · exact p0
        refine wpAnyH_take (i := 0) (oi := { dst := some 20, op := _, type := _, pos := _, after := _, guard := _ }) (v := .pointer (some ⟨b, 0, none⟩)) rfl (by kernel_rfl) (by kernel_rfl) (by kernel_rfl) (fun _ _ _ h => h) (Or.inl ⟨by rfl, ?_⟩) (by assumption) ?_
        · intro w hSw; (try dsimp only at hSw); go_simp
        try simp only [Act.put, List.setIfInBounds_toArray, List.set_cons_zero, List.set_cons_succ]
        refine wpAnyH_take (i := 1) (oi := { dst := some 21, op := _, type := _, pos := _, after := _, guard := _ }) (v := .pointer (some ⟨b, 0, none⟩)) rfl (by kernel_rfl) (by kernel_rfl) (by kernel_rfl) (fun _ _ _ h => h) (Or.inl ⟨by rfl, ?_⟩) (by assumption) ?_
        · intro w hSw; (try dsimp only at hSw); go_simp
        try simp only [Act.put, List.setIfInBounds_toArray, List.set_cons_zero, List.set_cons_succ]
        refine wpAnyH_take (i := 2) (oi := { dst := some 22, op := _, type := _, pos := _, after := _, guard := _ }) (v := .pointer (some ⟨b, 0, none⟩)) rfl (by kernel_rfl) (by kernel_rfl) (by kernel_rfl) (fun _ _ _ h => h) (Or.inl ⟨by rfl, ?_⟩) (by assumption) ?_
        · intro w hSw; (try dsimp only at hSw); go_simp
        try simp only [Act.put, List.setIfInBounds_toArray, List.set_cons_zero, List.set_cons_succ]
        refine wpAnyH_take (i := 3) (oi := { dst := some 23, op := _, type := _, pos := _, after := _, guard := _ }) (v := .slice (some ⟨bk, ok, none⟩) u.ks.length u.cap) rfl (by kernel_rfl) (by kernel_rfl) (by kernel_rfl) (fun _ _ _ h => h) (Or.inl ⟨by rfl, ?_⟩) (by assumption) ?_
        · intro w hSw; (try dsimp only at hSw); go_simp
        try simp only [Act.put, List.setIfInBounds_toArray, List.set_cons_zero, List.set_cons_succ]
        refine wpAnyH_take (i := 4) (oi := { dst := some 24, op := _, type := _, pos := _, after := _, guard := _ }) (v := .int .i64 j) rfl (by kernel_rfl) (by kernel_rfl) (by kernel_rfl) (fun _ _ _ h => h) (Or.inl ⟨by rfl, ?_⟩) (by assumption) ?_
        · intro w hSw; (try dsimp only at hSw); go_simp
        try simp only [Act.put, List.setIfInBounds_toArray, List.set_cons_zero, List.set_cons_succ]
        refine wpAnyH_take (i := 5) (oi := { dst := some 25, op := _, type := _, pos := _, after := _, guard := _ }) (v := .pointer (some ⟨bk, ok + j * 4, none⟩)) rfl (by kernel_rfl) (by kernel_rfl) (by kernel_rfl) (fun _ _ _ h => h) (Or.inl ⟨by rfl, ?_⟩) (by assumption) ?_
        · intro w hSw; (try dsimp only at hSw); go_simp
        try simp only [Act.put, List.setIfInBounds_toArray, List.set_cons_zero, List.set_cons_succ]
        refine wpAnyH_ready (rs := [6]) (by kernel_rfl) (by simp) ?_
        refine AllReadyH.cons (o := { dst := some 26, op := _, type := _, pos := _, after := _, guard := _ }) rfl (fun K hK => ?_) AllReadyH.nil
        go_simp
        go_at_call 53
        refine (spec_l06Closed u.ks[j] _ bk (ok + j * 4) (HK.out.grow (Gw.refl wr).drew)).mono ?_
        rw [HC.out]
        rintro e w2 ⟨rfl, g2⟩
        have k2 : ∀ b o, b < wr.heap.size → w2.cell? ⟨b, o, none⟩ = wr.cell? ⟨b, o, none⟩ := fun b o h => (bcell g2).1 b o h
        go_wp2_with fail
        refine hK.out _ _ ((k2 _ _ hlb).trans p0) (fun hHeld => ?_)
        clear hK K
        try simp only [Act.put, List.setIfInBounds_toArray, List.set_cons_zero, List.set_cons_succ]
        refine wpAnyH_take (i := 7) (oi := { dst := some 27, op := _, type := _, pos := _, after := _, guard := _ }) (v := .bool true) rfl (by kernel_rfl) (by kernel_rfl) (by kernel_rfl) (fun _ _ _ h => h) (Or.inl ⟨by rfl, ?_⟩) (by assumption) ?_
        · intro w hSw; (try dsimp only at hSw); go_simp
        try simp only [Act.put, List.setIfInBounds_toArray, List.set_cons_zero, List.set_cons_succ]
        refine wpAnyH_take (i := 8) (oi := { dst := some 28, op := _, type := _, pos := _, after := _, guard := _ }) (v := .bool true) rfl (by kernel_rfl) (by kernel_rfl) (by kernel_rfl) (fun _ _ _ h => h) (Or.inl ⟨by rfl, ?_⟩) (by assumption) ?_
        · intro w hSw; (try dsimp only at hSw); go_simp
        try simp only [Act.put, List.setIfInBounds_toArray, List.set_cons_zero, List.set_cons_succ]
        refine wpAnyH_take (i := 9) (oi := { dst := some 29, op := _, type := _, pos := _, after := _, guard := _ }) (v := undef) rfl (by kernel_rfl) (by kernel_rfl) (by kernel_rfl) (fun _ _ _ h => h) (Or.inr ⟨by rfl, rfl⟩) (by assumption) ?_
        try simp only [Act.put, List.setIfInBounds_toArray, List.set_cons_zero, List.set_cons_succ]
        refine wpAnyH_take (i := 10) (oi := { dst := some 30, op := _, type := _, pos := _, after := _, guard := _ }) (v := undef) rfl (by kernel_rfl) (by kernel_rfl) (by kernel_rfl) (fun _ _ _ h => h) (Or.inr ⟨by rfl, rfl⟩) (by assumption) ?_
        try simp only [Act.put, List.setIfInBounds_toArray, List.set_cons_zero, List.set_cons_succ]
        refine wpAnyH_take (i := 11) (oi := { dst := some 31, op := _, type := _, pos := _, after := _, guard := _ }) (v := undef) rfl (by kernel_rfl) (by kernel_rfl) (by kernel_rfl) (fun _ _ _ h => h) (Or.inr ⟨by rfl, rfl⟩) (by assumption) ?_
        try simp only [Act.put, List.setIfInBounds_toArray, List.set_cons_zero, List.set_cons_succ]
        refine wpAnyH_take (i := 12) (oi := { dst := some 32, op := _, type := _, pos := _, after := _, guard := _ }) (v := undef) rfl (by kernel_rfl) (by kernel_rfl) (by kernel_rfl) (fun _ _ _ h => h) (Or.inr ⟨by rfl, rfl⟩) (by assumption) ?_
        try simp only [Act.put, List.setIfInBounds_toArray, List.set_cons_zero, List.set_cons_succ]
        refine wpAnyH_take (i := 13) (oi := { dst := some 33, op := _, type := _, pos := _, after := _, guard := _ }) (v := undef) rfl (by kernel_rfl) (by kernel_rfl) (by kernel_rfl) (fun _ _ _ h => h) (Or.inr ⟨by rfl, rfl⟩) (by assumption) ?_
        try simp only [Act.put, List.setIfInBounds_toArray, List.set_cons_zero, List.set_cons_succ]
        refine wpAnyH_take (i := 14) (oi := { dst := some 34, op := _, type := _, pos := _, after := _, guard := _ }) (v := undef) rfl (by kernel_rfl) (by kernel_rfl) (by kernel_rfl) (fun _ _ _ h => h) (Or.inr ⟨by rfl, rfl⟩) (by assumption) ?_
        try simp only [Act.put, List.setIfInBounds_toArray, List.set_cons_zero, List.set_cons_succ]
        refine wpAnyH_take (i := 15) (oi := { dst := some 35, op := _, type := _, pos := _, after := _, guard := _ }) (v := undef) rfl (by kernel_rfl) (by kernel_rfl) (by kernel_rfl) (fun _ _ _ h => h) (Or.inr ⟨by rfl, rfl⟩) (by assumption) ?_
        try simp only [Act.put, List.setIfInBounds_toArray, List.set_cons_zero, List.set_cons_succ]
        refine wpAnyH_take (i := 16) (oi := { dst := some 36, op := _, type := _, pos := _, after := _, guard := _ }) (v := undef) rfl (by kernel_rfl) (by kernel_rfl) (by kernel_rfl) (fun _ _ _ h => h) (Or.inr ⟨by rfl, rfl⟩) (by assumption) ?_
        try simp only [Act.put, List.setIfInBounds_toArray, List.set_cons_zero, List.set_cons_succ]
        refine wpAnyH_take (i := 17) (oi := { dst := some 37, op := _, type := _, pos := _, after := _, guard := _ }) (v := undef) rfl (by kernel_rfl) (by kernel_rfl) (by kernel_rfl) (fun _ _ _ h => h) (Or.inr ⟨by rfl, rfl⟩) (by assumption) ?_
        try simp only [Act.put, List.setIfInBounds_toArray, List.set_cons_zero, List.set_cons_succ]
        refine wpAnyH_take (i := 18) (oi := { dst := some 38, op := _, type := _, pos := _, after := _, guard := _ }) (v := undef) rfl (by kernel_rfl) (by kernel_rfl) (by kernel_rfl) (fun _ _ _ h => h) (Or.inr ⟨by rfl, rfl⟩) (by assumption) ?_
        try simp only [Act.put, List.setIfInBounds_toArray, List.set_cons_zero, List.set_cons_succ]
        refine wpAnyH_take (i := 19) (oi := { dst := some 39, op := _, type := _, pos := _, after := _, guard := _ }) (v := undef) rfl (by kernel_rfl) (by kernel_rfl) (by kernel_rfl) (fun _ _ _ h => h) (Or.inr ⟨by rfl, rfl⟩) (by assumption) ?_
        try simp only [Act.put, List.setIfInBounds_toArray, List.set_cons_zero, List.set_cons_succ]
        refine wpAnyH_take (i := 20) (oi := { dst := some 40, op := _, type := _, pos := _, after := _, guard := _ }) (v := undef) rfl (by kernel_rfl) (by kernel_rfl) (by kernel_rfl) (fun _ _ _ h => h) (Or.inr ⟨by rfl, rfl⟩) (by assumption) ?_
        try simp only [Act.put, List.setIfInBounds_toArray, List.set_cons_zero, List.set_cons_succ]
        refine wpAnyH_take (i := 21) (oi := { dst := some 41, op := _, type := _, pos := _, after := _, guard := _ }) (v := undef) rfl (by kernel_rfl) (by kernel_rfl) (by kernel_rfl) (fun _ _ _ h => h) (Or.inr ⟨by rfl, rfl⟩) (by assumption) ?_
        try simp only [Act.put, List.setIfInBounds_toArray, List.set_cons_zero, List.set_cons_succ]
        refine wpAnyH_take (i := 22) (oi := { dst := some 42, op := _, type := _, pos := _, after := _, guard := _ }) (v := .bool true) rfl (by kernel_rfl) (by kernel_rfl) (by kernel_rfl) (fun _ _ _ h => h) (Or.inl ⟨by rfl, ?_⟩) (by assumption) ?_
        · intro w hSw; (try dsimp only at hSw); go_simp
        try simp only [Act.put, List.setIfInBounds_toArray, List.set_cons_zero, List.set_cons_succ]
        refine wpAnyH_done (by kernel_rfl) ?_ _
        go_wp2_with fail
        go_ret
        exact ⟨ret_b FF.out.symm, HG.out.trans ((Gw.refl wr).drew.trans g2)⟩
      | true =>
        have HC := Lib.hid hc
        clear hc
        go_region_held3 (fun W => W.cell? ⟨b, 0, none⟩ = some (.slice (some ⟨bk, ok, none⟩) u.ks.length u.cap))
          (first | exact p0 | exact (k2 _ _ hlb).trans p0 | exact (k3 _ _ hlb).trans p0)
          (first
            | (go_at_call 53; refine (spec_l06Closed u.ks[j] _ bk (ok + j * 4) (by exact HK.out.grow (Gw.refl wr).drew)).mono ?_; rw [HC.out]; rintro e w2 ⟨rfl, g2⟩; have k2 : ∀ b o, b < wr.heap.size → w2.cell? ⟨b, o, none⟩ = wr.cell? ⟨b, o, none⟩ := fun b o h => (bcell g2).1 b o h)
            | (go_at_call 106; refine (krf_all u.ks.length u.ks[j] _ bk (ok + j * 4) (by exact HK.out.grow ((Gw.refl wr).drew.trans g2))).mono ?_; rintro e w3 ⟨rfl, g3⟩; have k3 : ∀ b o, b < wr.heap.size → w3.cell? ⟨b, o, none⟩ = wr.cell? ⟨b, o, none⟩ := fun b o h => ((bcell g3).1 b o (Nat.lt_of_lt_of_le h g2.size)).trans (k2 b o h)))
        have G3 := Lib.hid (HG.out.trans (((Gw.refl wr).drew.trans g2).trans g3))
        clear k2 k3 g2 g3
        cases hr : u.ks[j].co.all (refH u.ks.length) with
        | false =>
          have FF := Lib.hid (BD.out (by rw [hr, Bool.and_false]))
          clear hr
          go_wp2_with fail
          go_ret
          exact ⟨ret_b FF.out.symm, G3.out⟩
        | true =>
          have HR := Lib.hid hr
          clear hr
          go_wp2_with fail
          go_roundw
          case rel =>
            refine ⟨j + 1, by omega, by go_num, G3.out, fun x hx hi => ?_⟩
            by_cases e : x = j
            · subst e; rw [HC.out, HR.out]; rfl
            · exact HALL.out x hx (by omega)
          case measure => simp [intOf]; omega
    · obtain rfl : j = u.ks.length := by omega
      have FF := Lib.hid (bkC_yes HN.out (fun x hx => HALL.out x hx hx))
      clear hg
      go_wp2_with fail
      go_ret
      exact ⟨ret_b FF.out.symm, HG.out⟩

theorem spec_validBook (u : LB) (w : World) (h : bOk w u) : Calls Tryd.prog 37 #[u.val] w (BoolGw (bkC u.cs) w) := by
  have G := Lib.hid ((Gw.refl w).alloc (.cells #[.slice u.a u.ks.length u.cap] 49))
  have KEY := Lib.hid (spec_l06Book u _ _ (h.grow G.out) (BoxB.new w u 49))
  clear h
  go_enter Tryd.func37, Tryd.ntmps37
  go_wp2_with fail
  refine KEY.out.mono ?_
  rintro e w1 ⟨rfl, g1⟩
  go_wp2_with fail
  go_ret
  exact ⟨rfl, G.out.trans g1⟩

end Go.Proofs.YtclandjgipfonaaDoor.Con
