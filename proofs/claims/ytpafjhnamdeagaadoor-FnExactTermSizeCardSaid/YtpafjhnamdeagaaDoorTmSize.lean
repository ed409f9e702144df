/-
  Contracts of the program's TermSize and ValidTerm. Condition: the table of forms reads as the program's text lays it, and the term lies in memory.
-/
import Derived.Test.YtpafjhnamdeagaaDoorTmForm
import Derived.Deep.Cut
namespace Go.Proofs.YtpafjhnamdeagaaDoor.Con
open Go.RowKit
set_option linter.unusedVariables false

/-- The two boxes of the closure: the counter and the closure itself. -/
def SzCaps (w : World) (CN CV n : Nat) : Prop := w.heap[CN]? = some (.cells #[.int .i64 n] 2 (0, 0)) ∧ w.heap[CV]? = some (.cells #[.func (.func 41) #[] #[.pointer (some ⟨CN, 0, none⟩), .pointer (some ⟨CV, 0, none⟩)]] 77 (0, 0))
def SzPost (w : World) (CN CV n d : Nat) (c : Bool) (u : LM) (e : Ending) (w' : World) : Prop :=
  ∃ r : Bool, e = .returned (.bool r) ∧ (r = true ↔ goodM u.tm c (25 - d) (160 - n)) ∧ Chg w w' (fun b => b = CN) ∧ (r = true → SzCaps w' CN CV (n + u.tm.nn))
def SzC (u : LM) : Prop := ∀ (w0 w : World) (d n CN CV : Nat) (c : Bool), u.Ok w0 → Tbl w0 → Gw w0 w → SzCaps w CN CV n → w0.heap.size ≤ CN → CN ≠ CV → n ≤ 160 → d ≤ 25 →
  Calls Tryd.prog 41 #[u.val, .int .i64 d, .bool c, .pointer (some ⟨CN, 0, none⟩), .pointer (some ⟨CV, 0, none⟩)] w (SzPost w CN CV n d c u)

theorem sz_false {w w' : World} {CN CV n d : Nat} {c : Bool} {u : LM} (h : ¬ goodM u.tm c (25 - d) (160 - n)) (hc : Chg w w' (fun b => b = CN)) : SzPost w CN CV n d c u (.returned (.bool false)) w' :=
  ⟨false, rfl, by simp [h], hc, fun h => by cases h⟩

theorem SzCaps.keep {w w' : World} {CN CV n : Nat} (h : SzCaps w CN CV n) (g : Gw w w') : SzCaps w' CN CV n :=
  ⟨(g.block _ (Array.getElem?_eq_some_iff.1 h.1).1).trans h.1, (g.block _ (Array.getElem?_eq_some_iff.1 h.2).1).trans h.2⟩

set_option maxRecDepth 100000 in
set_option maxHeartbeats 4000000 in
theorem sz_of (u : LM) (ih : ∀ t ∈ u.ks, SzC t) : SzC u := by
  intro w0 w d n CN CV c hu hT g0 hcap hCN hne hn hd
  have HU := Lib.hid hu
  have HT := Lib.hid hT
  have HG := Lib.hid g0
  have hll : u.ks.length ≤ 9223372036854775807 := Nat.le_trans hu.kids.1 hu.kids.2.1
  have hltN : CN < w.heap.size := (Array.getElem?_eq_some_iff.1 hcap.1).1
  have hltV : CV < w.heap.size := (Array.getElem?_eq_some_iff.1 hcap.2).1
  have x0 : w.cell? ⟨CN, 0, none⟩ = some (.int .i64 n) := cell_of_row _ _ 0 _ _ _ hcap.1
  have y0 : w.frozen? ⟨CN, 0, none⟩ = false := by simp [World.frozen?, hcap.1]
  have CA := Lib.hid hcap
  clear hu hT g0 hcap
  go_enter Tryd.func41, Tryd.ntmps41
  go_upto_region 2 with (fail)
  have e1 : (n : Int) + 1 = ((n + 1 : Nat) : Int) := by omega
  have hS : SzCaps ((w.setCell ⟨CN, 0, none⟩ (.int .i64 ((n : Int) + 1))).alloc (.cells #[.int .i64 u.k, .int .i64 u.m, .string u.n, .int .i64 u.t.k, .string u.t.n, .slice u.t.a u.t.ks.length u.t.cap, .slice u.na u.ns.length u.nc, .slice u.a u.ks.length u.cap] 36)) CN CV (n + 1) := by
    refine ⟨?_, ?_⟩
    · rw [Below.heap_alloc _ _ _ (by simpa [World.setCell] using hltN), ← e1]
      exact set_at CA.out.1
    · rw [Below.heap_alloc _ _ _ (by simpa [World.setCell] using hltV), Below.heap_setCell _ _ _ _ (by simpa using fun e => hne e.symm)]
      exact CA.out.2
  have hX : BoxM ((w.setCell ⟨CN, 0, none⟩ (.int .i64 ((n : Int) + 1))).alloc (.cells #[.int .i64 u.k, .int .i64 u.m, .string u.n, .int .i64 u.t.k, .string u.t.n, .slice u.t.a u.t.ks.length u.t.cap, .slice u.na u.ns.length u.nc, .slice u.a u.ks.length u.cap] 36)) w.heap.size u := by
    have := BoxM.new (w.setCell ⟨CN, 0, none⟩ (.int .i64 ((n : Int) + 1))) u 36
    rwa [show (w.setCell ⟨CN, 0, none⟩ (.int .i64 ((n : Int) + 1))).heap.size = w.heap.size by simp [World.setCell]] at this
  have hC : Chg w ((w.setCell ⟨CN, 0, none⟩ (.int .i64 ((n : Int) + 1))).alloc (.cells #[.int .i64 u.k, .int .i64 u.m, .string u.n, .int .i64 u.t.k, .string u.t.n, .slice u.t.a u.t.ks.length u.t.cap, .slice u.na u.ns.length u.nc, .slice u.a u.ks.length u.cap] 36)) (fun b => b = CN) := (Chg.set (Chg.of_gw (Gw.refl w) (fun b => b = CN)) ⟨CN, 0, none⟩ _ (fun _ => rfl)).alloc _
  have BNE := Lib.hid (show ¬ CN = w.heap.size by omega)
  clear x0 y0 CA e1
  rw [show (n : Int) + 1 = ((n + 1 : Nat) : Int) by omega] at hS hX hC ⊢
  generalize (w.setCell ⟨CN, 0, none⟩ (.int .i64 ((n + 1 : Nat) : Int))).alloc (.cells #[.int .i64 u.k, .int .i64 u.m, .string u.n, .int .i64 u.t.k, .string u.t.n, .slice u.t.a u.t.ks.length u.t.cap, .slice u.na u.ns.length u.nc, .slice u.a u.ks.length u.cap] 36) = w1 at *
  have SC := Lib.hid hS
  have BX := Lib.hid hX
  have HC := Lib.hid hC
  have H0 := Lib.hid (show Gw w0 w1 from Below.trans HG.out (hC.gw HG.out.size (fun b hb e => by omega)))
  have x0 : w1.cell? ⟨CN, 0, none⟩ = some (.int .i64 ((n + 1 : Nat) : Int)) := cell_of_row _ _ 0 _ _ _ hS.1
  obtain ⟨p0, p1, p2, p3, p4, p5, p6, p7⟩ := hX.c
  clear hS hX hC
  by_cases h1 : n + 1 ≤ 160
  rotate_left
  · have F := Lib.hid (ndM_no3 (t := u.tm) (c := c) (d := 25 - d) (l := 160 - n) (.inr (by omega)))
    have q1 : (160 : Int) < ((n + 1 : Nat) : Int) := by omega
    go_wp2_with fail
    go_ret
    exact sz_false F.out HC.out
  have q1 : ¬ (160 : Int) < ((n + 1 : Nat) : Int) := by omega
  by_cases h2 : d ≤ 24
  rotate_left
  · have F := Lib.hid (ndM_no3 (t := u.tm) (c := c) (d := 25 - d) (l := 160 - n) (.inl (by omega)))
    have q2 : (24 : Int) < d := by omega
    go_wp2_with fail
    go_ret
    exact sz_false F.out HC.out
  have q2 : ¬ (24 : Int) < d := by omega
  cases hk : ((u.k == 10) == c) with
  | false =>
    have F := Lib.hid (ndM_no1 (t := u.tm) (c := c) (d := 25 - d) (l := 160 - n) (by rw [LM.tm_k]; exact hk))
    cases c with
    | true =>
      have q3 : (u.k == 10) = false := by simpa using hk
      clear hk
      go_wp2_with fail
      go_ret
      exact sz_false F.out HC.out
    | false =>
      have q3 : (u.k == 10) = true := by simpa using hk
      clear hk
      go_wp2_with fail
      go_ret
      exact sz_false F.out HC.out
  | true =>
  have Q0 := Lib.hid hk
  have q3 : (u.k == 10) = c := by simpa using hk
  have hcc : (c != c) = false := by simp
  clear hk
  go_wp2_with fail
  refine (impl_form u _ (HU.out.grow H0.out) (HT.out.grow H0.out)).mono ?_
  rintro e w2 ⟨rfl, g2⟩
  replace SC := Lib.hid (SC.out.keep g2)
  replace BX := Lib.hid (BX.out.grow g2)
  replace HC := Lib.hid (HC.out.trans (Chg.of_gw g2 _) (fun _ _ h => h))
  replace H0 := Lib.hid (H0.out.trans g2)
  clear x0 p0 p1 p2 p3 p4 p5 p6 p7 g2
  obtain ⟨p0, p1, p2, p3, p4, p5, p6, p7⟩ := BX.out.c
  cases hF : headM u.k u.m u.n u.t.ty u.ns u.ks.length with
  | false =>
    have F := Lib.hid (ndM_no2 (t := u.tm) (c := c) (d := 25 - d) (l := 160 - n) (by rw [LM.tm_k, LM.tm_m, LM.tm_n, LM.tm_t, LM.tm_ns, LM.tm_len]; exact hF))
    clear hF
    go_wp2_with fail
    go_ret
    exact sz_false F.out HC.out
  | true =>
  have HH := Lib.hid hF
  clear hF
  go_wp2_with fail
  clear p0 p1 p2 p3 p4 p5 p6 p7 hcc
  go_loopw [34] (fun i wr => ∃ j : Nat, j ≤ u.ks.length ∧ i = .int .i64 j ∧ Chg w wr (fun b => b = CN) ∧ SzCaps wr CN CV (n + nsum u j) ∧ BoxM wr w.heap.size u ∧ nsum u j ≤ 160 - n ∧ KidsOk u (25 - d) j) (fun i _ => u.ks.length - (intOf i).toNat)
  case atStart => exact ⟨0, Nat.zero_le _, rfl, HC.out, by simpa [nsum, nns, Tm.nn.nns] using SC.out, BX.out, by simp [nsum, nns, Tm.nn.nns]; omega, fun i _ h => absurd h (by omega)⟩
  case round =>
    obtain ⟨j, hj, rfl, hc, hs, hb, hle, hall⟩ := hrel
    replace HC := Lib.hid hc
    have SC3 := Lib.hid hs
    have BX3 := Lib.hid hb
    have HALL := Lib.hid hall
    have H3 := Lib.hid (show Gw w0 wr from Below.trans HG.out (hc.gw HG.out.size (fun b hb e => by omega)))
    clear hc hs hb hall
    by_cases hlt : j < u.ks.length
    · obtain ⟨bk, ok, ha, hkid⟩ := tmAt.kid (HU.out.grow H3.out).kids j hlt
      have HA := Lib.hid ha
      obtain ⟨c0, c1, c2, c3, c4, c5, c6, c7⟩ := hkid.c
      have HKO := Lib.hid ((tmAt.kid HU.out.kids j hlt).choose_spec.choose_spec.2.2)
      have r0 : (0 : Int) ≤ j := by omega
      have r1 : (j : Int) < u.ks.length := by omega
      rw [ha]
      clear hkid ha
      go_upto_region 7 with (fail)
      have hKB := BoxM.new wr u.ks[j] 36
      have gA : Gw wr (wr.alloc (.cells #[.int .i64 u.ks[j].k, .int .i64 u.ks[j].m, .string u.ks[j].n, .int .i64 u.ks[j].t.k, .string u.ks[j].t.n, .slice u.ks[j].t.a u.ks[j].t.ks.length u.ks[j].t.cap, .slice u.ks[j].na u.ks[j].ns.length u.ks[j].nc, .slice u.ks[j].a u.ks[j].ks.length u.ks[j].cap] 36)) := (Gw.refl wr).alloc _
      clear c0 c1 c2 c3 c4 c5 c6 c7
      generalize wr.alloc (.cells #[.int .i64 u.ks[j].k, .int .i64 u.ks[j].m, .string u.ks[j].n, .int .i64 u.ks[j].t.k, .string u.ks[j].t.n, .slice u.ks[j].t.a u.ks[j].t.ks.length u.ks[j].t.cap, .slice u.ks[j].na u.ks[j].ns.length u.ks[j].nc, .slice u.ks[j].a u.ks[j].ks.length u.ks[j].cap] 36) = W at *
      have f0 : W.cell? ⟨CV, 0, none⟩ = some (.func (.func 41) #[] #[.pointer (some ⟨CN, 0, none⟩), .pointer (some ⟨CV, 0, none⟩)]) := cell_of_row _ _ 0 _ _ _ (SC3.out.keep gA).2
      obtain ⟨z0, z1, z2, z3, z4, z5, z6, z7⟩ := hKB.c
      obtain ⟨p0, p1, p2, p3, p4, p5, p6, p7⟩ := (BX3.out.grow gA).c
      have E1 := Lib.hid (show 25 - (d + 1) = 25 - d - 1 by omega)
      have E2 := Lib.hid (show 160 - (n + nsum u j) = 160 - n - nsum u j by omega)
      have HNS := Lib.hid (nsum_succ u j hlt)
      have key : ∀ c', c' = flg u.k j → Calls Tryd.prog 41 #[u.ks[j].val, .int .i64 ((d : Int) + 1), .bool c', .pointer (some ⟨CN, 0, none⟩), .pointer (some ⟨CV, 0, none⟩)] W (SzPost W CN CV (n + nsum u j) (d + 1) (flg u.k j) u.ks[j]) := fun c' hc => by
        rw [show (d : Int) + 1 = ((d + 1 : Nat) : Int) by omega, hc]
        exact ih u.ks[j] (List.getElem_mem hlt) w0 W (d + 1) (n + nsum u j) CN CV (flg u.k j) HKO.out HT.out (H3.out.trans gA) (SC3.out.keep gA) hCN hne (by omega) (by omega)
      have KEY := Lib.hid key
      clear key hKB
      cases h9 : (u.k == 9) with
      | false =>
        have C := Lib.hid (show false = flg u.k j by unfold flg; rw [h9]; rfl)
        go_wp2_with fail
        clear z0 z1 z2 z3 z4 z5 z6 z7
        refine (KEY.out _ (by exact C.out)).mono ?_
        rintro e w4 ⟨r, rfl, hr, hc4, hcap4⟩
        have BX4 := Lib.hid ((BX3.out.grow gA).same (hc4.2.2.2.2 _ ((BX3.out.grow gA).lt) (fun e => BNE.out e.symm)))
        have C4 := Lib.hid (HC.out.trans ((Chg.of_gw gA _).trans hc4 (fun _ _ h => h)) (fun _ _ h => h))
        clear hc4 gA p0 p1 p2 p3 p4 p5 p6 p7 KEY f0
        cases r with
        | false =>
          have F := Lib.hid (kid_no (c := c) (d := 25 - d) (l := 160 - n) hlt (fun g => by have := hr.2 (by rw [E1.out, E2.out]; exact g); cases this))
          clear hr hcap4
          go_wp2_with fail
          go_ret
          exact sz_false F.out C4.out
        | true =>
          have GOOD := Lib.hid (show goodM u.ks[j].tm (flg u.k j) (25 - d - 1) (160 - n - nsum u j) by rw [← E1.out, ← E2.out]; exact hr.1 rfl)
          have CAP4 := Lib.hid (hcap4 rfl)
          clear hr hcap4
          go_wp2_with fail
          go_roundw
          case rel =>
            refine ⟨j + 1, by omega, by go_num, C4.out, by have := CAP4.out; rw [HNS.out]; rwa [Nat.add_assoc] at this, BX4.out, by have := GOOD.out.2.2; have := HNS.out; omega, fun x hx hi => ?_⟩
            by_cases e : x = j
            · subst e; exact ⟨GOOD.out.1, GOOD.out.2.1⟩
            · exact HALL.out x hx (by omega)
          case measure => simp [intOf]; omega
      | true =>
        have C := Lib.hid (show decide (0 < j) = flg u.k j by unfold flg; rw [h9]; simp)
        go_wp2_with fail
        clear z0 z1 z2 z3 z4 z5 z6 z7
        refine (KEY.out _ (by exact C.out)).mono ?_
        rintro e w4 ⟨r, rfl, hr, hc4, hcap4⟩
        have BX4 := Lib.hid ((BX3.out.grow gA).same (hc4.2.2.2.2 _ ((BX3.out.grow gA).lt) (fun e => BNE.out e.symm)))
        have C4 := Lib.hid (HC.out.trans ((Chg.of_gw gA _).trans hc4 (fun _ _ h => h)) (fun _ _ h => h))
        clear hc4 gA p0 p1 p2 p3 p4 p5 p6 p7 KEY f0
        cases r with
        | false =>
          have F := Lib.hid (kid_no (c := c) (d := 25 - d) (l := 160 - n) hlt (fun g => by have := hr.2 (by rw [E1.out, E2.out]; exact g); cases this))
          clear hr hcap4
          go_wp2_with fail
          go_ret
          exact sz_false F.out C4.out
        | true =>
          have GOOD := Lib.hid (show goodM u.ks[j].tm (flg u.k j) (25 - d - 1) (160 - n - nsum u j) by rw [← E1.out, ← E2.out]; exact hr.1 rfl)
          have CAP4 := Lib.hid (hcap4 rfl)
          clear hr hcap4
          go_wp2_with fail
          go_roundw
          case rel =>
            refine ⟨j + 1, by omega, by go_num, C4.out, by have := CAP4.out; rw [HNS.out]; rwa [Nat.add_assoc] at this, BX4.out, by have := GOOD.out.2.2; have := HNS.out; omega, fun x hx hi => ?_⟩
            by_cases e : x = j
            · subst e; exact ⟨GOOD.out.1, GOOD.out.2.1⟩
            · exact HALL.out x hx (by omega)
          case measure => simp [intOf]; omega
    · obtain rfl : j = u.ks.length := by omega
      have F := Lib.hid (kid_all (c := c) (d := 25 - d) (l := 160 - n) Q0.out HH.out (by omega) hle HALL.out)
      have FN := Lib.hid (nsum_all u)
      go_wp2_with fail
      go_ret
      exact ⟨true, rfl, by simp [F.out], HC.out, fun _ => by rw [← FN.out]; exact SC3.out⟩

theorem tbl_of {w : World} (h : laidMet Tryd.prog [("loop.example/g01074/impl.nodeForms", .agg (fmL.map FM.dat))] w) : Tbl w :=
  forms_cell (t := 117) (e := 116) (ki := 2) (kn := 3) (kb := 4) (by kernel_rfl) (by kernel_rfl) Tryd.underlying117 Tryd.underlying116 rfl rfl rfl rfl rfl rfl rfl rfl rfl rfl rfl rfl rfl rfl Tryd.underlying2 Tryd.underlying3 Tryd.underlying4 (by kernel_rfl) (by kernel_rfl) (by kernel_rfl) (by kernel_rfl) h

theorem sz_all (u : LM) : SzC u := by
  refine LM.ind (P := SzC) (fun k m n t na nc ns a cap ks ih => ?_) u
  exact sz_of (.mk k m n t na nc ns a cap ks) ih

set_option maxRecDepth 100000 in
theorem impl_sizeTm (u : LM) (w : World) (h : u.Ok w) (hT : Tbl w) : Calls Tryd.prog 16 #[u.val] w (IntGw (szT u.tm) w) := by
  have gW : Gw w (((w.alloc (.cells #[.int .i64 u.k, .int .i64 u.m, .string u.n, .int .i64 u.t.k, .string u.t.n, .slice u.t.a u.t.ks.length u.t.cap, .slice u.na u.ns.length u.nc, .slice u.a u.ks.length u.cap] 36)).alloc (.cells #[.int .i64 0] 2)).alloc (.cells #[.func (.func 41) #[] #[.pointer (some ⟨w.heap.size + 1, 0, none⟩), .pointer (some ⟨w.heap.size + 1 + 1, 0, none⟩)]] 77)) := (((Gw.refl w).alloc _).alloc _).alloc _
  have hB : BoxM (((w.alloc (.cells #[.int .i64 u.k, .int .i64 u.m, .string u.n, .int .i64 u.t.k, .string u.t.n, .slice u.t.a u.t.ks.length u.t.cap, .slice u.na u.ns.length u.nc, .slice u.a u.ks.length u.cap] 36)).alloc (.cells #[.int .i64 0] 2)).alloc (.cells #[.func (.func 41) #[] #[.pointer (some ⟨w.heap.size + 1, 0, none⟩), .pointer (some ⟨w.heap.size + 1 + 1, 0, none⟩)]] 77)) w.heap.size u := ((BoxM.new w u 36).grow ((Gw.refl _).alloc _)).grow ((Gw.refl _).alloc _)
  have hS : SzCaps (((w.alloc (.cells #[.int .i64 u.k, .int .i64 u.m, .string u.n, .int .i64 u.t.k, .string u.t.n, .slice u.t.a u.t.ks.length u.t.cap, .slice u.na u.ns.length u.nc, .slice u.a u.ks.length u.cap] 36)).alloc (.cells #[.int .i64 0] 2)).alloc (.cells #[.func (.func 41) #[] #[.pointer (some ⟨w.heap.size + 1, 0, none⟩), .pointer (some ⟨w.heap.size + 1 + 1, 0, none⟩)]] 77)) (w.heap.size + 1) (w.heap.size + 1 + 1) 0 := by
    refine ⟨?_, heap_alloc_at _ _ _ _ rfl (by simp)⟩
    rw [Below.heap_alloc _ _ _ (by simp)]
    exact heap_alloc_at _ _ _ _ rfl (by simp)
  have hsz : (((w.alloc (.cells #[.int .i64 u.k, .int .i64 u.m, .string u.n, .int .i64 u.t.k, .string u.t.n, .slice u.t.a u.t.ks.length u.t.cap, .slice u.na u.ns.length u.nc, .slice u.a u.ks.length u.cap] 36)).alloc (.cells #[.int .i64 0] 2)).alloc (.cells #[.func (.func 41) #[] #[.pointer (some ⟨w.heap.size + 1, 0, none⟩), .pointer (some ⟨w.heap.size + 1 + 1, 0, none⟩)]] 77)).heap.size = w.heap.size + 3 := by simp
  have key := sz_all u w (((w.alloc (.cells #[.int .i64 u.k, .int .i64 u.m, .string u.n, .int .i64 u.t.k, .string u.t.n, .slice u.t.a u.t.ks.length u.t.cap, .slice u.na u.ns.length u.nc, .slice u.a u.ks.length u.cap] 36)).alloc (.cells #[.int .i64 0] 2)).alloc (.cells #[.func (.func 41) #[] #[.pointer (some ⟨w.heap.size + 1, 0, none⟩), .pointer (some ⟨w.heap.size + 1 + 1, 0, none⟩)]] 77)) 1 0 (w.heap.size + 1) (w.heap.size + 1 + 1) false h hT gW hS (by omega) (by omega) (by omega) (by omega)
  have f0 : (((w.alloc (.cells #[.int .i64 u.k, .int .i64 u.m, .string u.n, .int .i64 u.t.k, .string u.t.n, .slice u.t.a u.t.ks.length u.t.cap, .slice u.na u.ns.length u.nc, .slice u.a u.ks.length u.cap] 36)).alloc (.cells #[.int .i64 0] 2)).alloc (.cells #[.func (.func 41) #[] #[.pointer (some ⟨w.heap.size + 1, 0, none⟩), .pointer (some ⟨w.heap.size + 1 + 1, 0, none⟩)]] 77)).cell? ⟨w.heap.size + 1 + 1, 0, none⟩ = some (.func (.func 41) #[] #[.pointer (some ⟨w.heap.size + 1, 0, none⟩), .pointer (some ⟨w.heap.size + 1 + 1, 0, none⟩)]) := cell_of_row _ _ 0 _ _ _ hS.2
  obtain ⟨p0, p1, p2, p3, p4, p5, p6, p7⟩ := hB.c
  have KEY := Lib.hid key
  have G := Lib.hid gW
  clear key h hT hB hS gW
  go_enter Tryd.func16, Tryd.ntmps16
  go_upto_region 4 with (fail)
  generalize (((w.alloc (.cells #[.int .i64 u.k, .int .i64 u.m, .string u.n, .int .i64 u.t.k, .string u.t.n, .slice u.t.a u.t.ks.length u.t.cap, .slice u.na u.ns.length u.nc, .slice u.a u.ks.length u.cap] 36)).alloc (.cells #[.int .i64 0] 2)).alloc (.cells #[.func (.func 41) #[] #[.pointer (some ⟨w.heap.size + 1, 0, none⟩), .pointer (some ⟨w.heap.size + 1 + 1, 0, none⟩)]] 77)) = W at *
  go_wp2_with fail
  refine KEY.out.mono ?_
  rintro e w1 ⟨r, rfl, hr, hc, hcap⟩
  have G1 := Lib.hid (show Gw w w1 from Below.trans G.out (hc.gw (by omega) (fun b hb e => by omega)))
  clear hc p0 p1 p2 p3 p4 p5 p6 p7 f0 KEY hsz
  cases r with
  | false =>
    have F := Lib.hid (szT_no (t := u.tm) (decide_eq_false fun g => by have := hr.2 g; cases this))
    clear hr hcap
    go_wp2_with fail
    go_ret
    exact ⟨ret_int F.out.symm, G1.out⟩
  | true =>
    have F := Lib.hid (szT_yes (t := u.tm) (decide_eq_true (hr.1 rfl)))
    have c0 : w1.cell? ⟨w.heap.size + 1, 0, none⟩ = some (.int .i64 ((0 + u.tm.nn : Nat) : Int)) := cell_of_row _ _ 0 _ _ _ (hcap rfl).1
    rw [Nat.zero_add] at c0
    clear hr hcap
    go_wp2_with fail
    go_ret
    exact ⟨ret_int F.out.symm, G1.out⟩

theorem impl_validTm (u : LM) (w : World) (h : u.Ok w) (hT : Tbl w) : Calls Tryd.prog 11 #[u.val] w (BoolGw (okT u.tm) w) := by
  have g0 := (Gw.refl w).alloc (.cells #[.int .i64 u.k, .int .i64 u.m, .string u.n, .int .i64 u.t.k, .string u.t.n, .slice u.t.a u.t.ks.length u.t.cap, .slice u.na u.ns.length u.nc, .slice u.a u.ks.length u.cap] 36)
  have KEY := Lib.hid (impl_sizeTm u _ (h.grow g0) (hT.grow g0))
  have G := Lib.hid g0
  clear h hT g0
  go_enter Tryd.func11, Tryd.ntmps11
  go_wp2_with fail
  refine KEY.out.mono ?_
  rintro e w1 ⟨rfl, g1⟩
  cases hok : okT u.tm with
  | false =>
    have HOK := Lib.hid hok
    rw [szT_no hok]
    clear hok
    go_wp2_with fail
    go_ret
    exact ⟨ret_b (by first | exact HOK.out.symm | rfl), G.out.trans g1⟩
  | true =>
    have HOK := Lib.hid hok
    rw [szT_yes hok]
    have hp := nn_pos u.tm
    have q : (0 : Int) < u.tm.nn := by omega
    clear hok
    go_wp2_with fail
    go_ret
    exact ⟨ret_b (by (try rw [HOK.out]); (first | rfl | exact decide_eq_true (by omega))), G.out.trans g1⟩

end Go.Proofs.YtpafjhnamdeagaaDoor.Con
