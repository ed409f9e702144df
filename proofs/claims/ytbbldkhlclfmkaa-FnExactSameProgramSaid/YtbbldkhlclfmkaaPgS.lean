/-
  Contracts of the model's l03SameTypes, l03SameData and SameProgram: deep equality as equality without addresses. No condition but that all lies in memory.
-/
import Derived.Test.YtbbldkhlclfmkaaDf
import Derived.Test.YtbbldkhlclfmkaaTmSame
import Derived.Deep.RegionHeld3
import Derived.Deep.Cut
import Derived.Deep.QuietTactic
import Derived.BigQuiet
namespace Go.Proofs.Ytbbldkhlclfmkaa.Con
open Go.RowKit
set_option linter.unusedVariables false

theorem gw_drewN {B : Nat} {a w : World} (h : Below B a w) (n : Nat) : Below B a (w.drewN n) := h.trans ⟨rfl, rfl, rfl, Nat.le_refl _, fun _ _ => rfl⟩
def EqGw (P : Prop) (w : World) (e : Ending) (w' : World) : Prop := ∃ r : Bool, e = .returned (.bool r) ∧ (r = true ↔ P) ∧ Gw w w'
theorem eqGw_false {P : Prop} {w w' : World} (h : ¬ P) (g : Gw w w') : EqGw P w (.returned (.bool false)) w' := ⟨false, rfl, by simp [h], g⟩
theorem eqGw_true {P : Prop} {w w' : World} (h : P) (g : Gw w w') : EqGw P w (.returned (.bool true)) w' := ⟨true, rfl, by simp [h], g⟩
theorem map_iff {α β : Type} {f : α → β} {xs ys : List α} : xs.map f = ys.map f ↔ xs.length = ys.length ∧ ∀ i (hx : i < xs.length) (hy : i < ys.length), f xs[i] = f ys[i] := by
  constructor
  · intro h
    have hl : xs.length = ys.length := by have := congrArg List.length h; simpa using this
    refine ⟨hl, fun i hx hy => ?_⟩
    have : (xs.map f)[i]'(by simpa using hx) = (ys.map f)[i]'(by simpa using hy) := by simp only [h]
    simpa using this
  · rintro ⟨hl, h⟩
    exact List.ext_getElem (by simpa using hl) fun i h1 h2 => by simpa using h i (by simpa using h1) (by simpa using h2)
/-- A block with these cells. -/
def BoxV (W : World) (b : Nat) (vs : Array Value) : Prop := ∃ e, W.heap[b]? = some (.cells vs e (0, 0))
theorem BoxV.new (W : World) (vs : Array Value) (e : TypeId) : BoxV (W.alloc (.cells vs e)) W.heap.size vs := ⟨e, heap_alloc_new W _⟩
theorem BoxV.lt {W : World} {b : Nat} {vs : Array Value} (h : BoxV W b vs) : b < W.heap.size := by
  obtain ⟨e, h⟩ := h
  exact (Array.getElem?_eq_some_iff.1 h).1
theorem BoxV.same {W W' : World} {b : Nat} {vs : Array Value} (h : BoxV W b vs) (hs : W'.heap[b]? = W.heap[b]?) : BoxV W' b vs := by
  obtain ⟨e, h⟩ := h
  exact ⟨e, hs.trans h⟩
theorem BoxV.grow {W W' : World} {b : Nat} {vs : Array Value} (h : BoxV W b vs) (g : Gw W W') : BoxV W' b vs := h.same (g.block b h.lt)
theorem BoxV.cell {W : World} {b : Nat} {vs : Array Value} (h : BoxV W b vs) (i : Nat) (v : Value) (hv : vs[i]? = some v) : W.cell? ⟨b, i, none⟩ = some v := by
  obtain ⟨e, h⟩ := h
  exact (cell_of_row _ _ i _ _ _ h).trans hv
theorem BoxV.one {W : World} {b : Nat} {v0 : Value} (h : BoxV W b #[v0]) : W.cell? ⟨b, 0, none⟩ = some v0 := h.cell 0 _ rfl
theorem BoxV.two {W : World} {b : Nat} {v0 v1 : Value} (h : BoxV W b #[v0, v1]) : W.cell? ⟨b, 0, none⟩ = some v0 ∧ W.cell? ⟨b, 1, none⟩ = some v1 := ⟨h.cell 0 _ rfl, h.cell 1 _ rfl⟩
theorem BoxV.three {W : World} {b : Nat} {v0 v1 v2 : Value} (h : BoxV W b #[v0, v1, v2]) : W.cell? ⟨b, 0, none⟩ = some v0 ∧ W.cell? ⟨b, 1, none⟩ = some v1 ∧ W.cell? ⟨b, 2, none⟩ = some v2 := ⟨h.cell 0 _ rfl, h.cell 1 _ rfl, h.cell 2 _ rfl⟩
theorem BoxV.twelve {W : World} {b : Nat} {v0 v1 v2 v3 v4 v5 v6 v7 v8 v9 v10 v11 : Value} (h : BoxV W b #[v0, v1, v2, v3, v4, v5, v6, v7, v8, v9, v10, v11]) : W.cell? ⟨b, 0, none⟩ = some v0 ∧ W.cell? ⟨b, 1, none⟩ = some v1 ∧ W.cell? ⟨b, 2, none⟩ = some v2 ∧ W.cell? ⟨b, 3, none⟩ = some v3 ∧ W.cell? ⟨b, 4, none⟩ = some v4 ∧ W.cell? ⟨b, 5, none⟩ = some v5 ∧ W.cell? ⟨b, 6, none⟩ = some v6 ∧ W.cell? ⟨b, 7, none⟩ = some v7 ∧ W.cell? ⟨b, 8, none⟩ = some v8 ∧ W.cell? ⟨b, 9, none⟩ = some v9 ∧ W.cell? ⟨b, 10, none⟩ = some v10 ∧ W.cell? ⟨b, 11, none⟩ = some v11 :=
  ⟨h.cell 0 _ rfl, h.cell 1 _ rfl, h.cell 2 _ rfl, h.cell 3 _ rfl, h.cell 4 _ rfl, h.cell 5 _ rfl, h.cell 6 _ rfl, h.cell 7 _ rfl, h.cell 8 _ rfl, h.cell 9 _ rfl, h.cell 10 _ rfl, h.cell 11 _ rfl⟩
theorem spec_same_yes (x y : LT) (w : World) (hx : x.Ok w) (hy : y.Ok w) (h : x.ty = y.ty) : Calls Try.prog 10 #[x.val, y.val] w fun e w' => e = .returned (.bool true) ∧ Gw w w' := by
  refine (spec_same x y w hx hy).mono ?_
  rintro e w' ⟨r, rfl, hr, g⟩
  exact ⟨by rw [hr.2 h], g⟩

set_option maxRecDepth 100000 in
theorem spec_sTypes (xs ys : List LT) (w : World) (a a' : Option Addr) (cap cap' : Nat) (hx : slOk w a cap xs) (hy : slOk w a' cap' ys) :
    Calls Try.prog 94 #[.slice a xs.length cap, .slice a' ys.length cap'] w (EqGw (xs.map LT.ty = ys.map LT.ty) w) := by
  have hlx : xs.length ≤ 9223372036854775807 := Nat.le_trans hx.1 hx.2.1
  have hly : ys.length ≤ 9223372036854775807 := Nat.le_trans hy.1 hy.2.1
  have HX := Lib.hid hx
  have HY := Lib.hid hy
  clear hx hy
  obtain ⟨m, hm⟩ : ∃ m, m = ys.length := ⟨_, rfl⟩
  rw [← hm] at hly ⊢
  go_enter Try.func94, Try.ntmps94
  by_cases hnm : xs.length = m
  rotate_left
  · have z1 : ((xs.length : Int) != (m : Int)) = true := by simp; omega
    have F := Lib.hid (show ¬ xs.map LT.ty = ys.map LT.ty from fun e => hnm (by rw [hm]; exact (map_iff.1 e).1))
    clear hnm hm
    go_wp2_with fail
    go_ret
    exact eqGw_false F.out (Gw.refl _)
  have HM := Lib.hid hm
  clear hm
  obtain rfl := hnm
  have z1 : ((xs.length : Int) != (xs.length : Int)) = false := by simp
  go_wp2_with fail
  clear z1
  go_loopw [5] (fun i wr => ∃ j : Nat, j ≤ xs.length ∧ i = .int .i64 j ∧ Gw w wr ∧ ∀ i (hx : i < xs.length) (hy : i < ys.length), i < j → xs[i].ty = ys[i].ty) (fun i _ => xs.length - (intOf i).toNat)
  case atStart => exact ⟨0, by omega, rfl, Gw.refl _, fun i _ _ h => absurd h (by omega)⟩
  case round =>
    obtain ⟨j, hj, rfl, hg, hall⟩ := hrel
    have HALL := Lib.hid hall
    have HG := Lib.hid hg
    clear hall
    by_cases hlt : j < xs.length
    · have hjy : j < ys.length := by have := HM.out; omega
      obtain ⟨b1, o1, rfl, r1⟩ := (HX.out.grow hg).2.2.resolve_left (fun e => by rw [e] at hlt; simp at hlt)
      obtain ⟨b2, o2, rfl, r2⟩ := (HY.out.grow hg).2.2.resolve_left (fun e => by rw [e] at hjy; simp at hjy)
      obtain ⟨c0, c1, c2, k1⟩ := rowOk_get r1 j hlt
      obtain ⟨d0, d1, d2, k2⟩ := rowOk_get r2 j hjy
      have s0 : (0 : Int) ≤ j := by omega
      have s1 : (j : Int) < xs.length := by omega
      have K1 := Lib.hid k1.drew
      have K2 := Lib.hid k2.drew
      clear r1 r2 k1 k2 hg
      go_wp2_with fail
      go_still_tail 8, (by kernel_rfl)
      change wpList _ _ _ _ _ wr.drew
      clear c0 c1 c2 d0 d1 d2
      have HGD := Lib.hid (show Gw w wr.drew from HG.out.drew)
      clear HG
      generalize wr.drew = w4 at *
      go_wp2_with fail
      refine (spec_same xs[j] ys[j] w4 K1.out K2.out).mono ?_
      rintro e w5 ⟨r, rfl, hr, g5⟩
      have HG5 := Lib.hid (HGD.out.trans g5)
      clear g5
      cases r with
      | false =>
        have F := Lib.hid (show ¬ xs.map LT.ty = ys.map LT.ty from fun e => by have := hr.2 ((map_iff.1 e).2 j hlt hjy); cases this)
        clear hr
        go_wp2_with fail
        go_ret
        exact eqGw_false F.out HG5.out
      | true =>
        have HE := Lib.hid (hr.1 rfl)
        clear hr
        go_wp2_with fail
        go_roundw
        case rel =>
          refine ⟨j + 1, by omega, by go_num, HG5.out, fun i hx hy hi => ?_⟩
          by_cases e : i = j
          · subst e; exact HE.out
          · exact HALL.out i hx hy (by omega)
        case measure => simp [intOf]; omega
    · obtain rfl : j = xs.length := by omega
      have F := Lib.hid (show xs.map LT.ty = ys.map LT.ty from map_iff.2 ⟨HM.out, fun i hx hy => HALL.out i hx hy hx⟩)
      go_wp2_with fail
      go_ret
      exact eqGw_true F.out HG.out

theorem ln_iff {α β : Type} {f : α → β} (c d : LN α) : ((c.n, c.xs.map f) = (d.n, d.xs.map f)) ↔ c.n = d.n ∧ c.xs.map f = d.xs.map f := by simp
theorem dty_iff (x y : LD) : dty x = dty y ↔ x.n = y.n ∧ x.xs.map cty = y.xs.map cty := by unfold dty; exact ln_iff x y
theorem cty_iff (x y : LC) : cty x = cty y ↔ x.n = y.n ∧ x.xs.map LT.ty = y.xs.map LT.ty := by unfold cty; exact ln_iff x y

set_option maxRecDepth 100000 in
set_option maxHeartbeats 1000000 in
theorem spec_sData (x y : LD) (w : World) (hx : dOk w x) (hy : dOk w y) : Calls Try.prog 58 #[x.val, y.val] w (EqGw (dty x = dty y) w) := by
  have hlx : x.xs.length ≤ 9223372036854775807 := Nat.le_trans hx.2.1 hx.2.2.1
  have hly : y.xs.length ≤ 9223372036854775807 := Nat.le_trans hy.2.1 hy.2.2.1
  have gA : Gw w ((w.alloc (.cells #[.string x.n, .slice x.a x.xs.length x.cap] 95)).alloc (.cells #[.string y.n, .slice y.a y.xs.length y.cap] 95)) := ((Gw.refl w).alloc _).alloc _
  have b1 := (BoxV.new w #[.string x.n, .slice x.a x.xs.length x.cap] 95).grow ((Gw.refl _).alloc (.cells #[.string y.n, .slice y.a y.xs.length y.cap] 95))
  have b2 := BoxV.new (w.alloc (.cells #[.string x.n, .slice x.a x.xs.length x.cap] 95)) #[.string y.n, .slice y.a y.xs.length y.cap] 95
  rw [World.size_alloc] at b2
  have OX := Lib.hid (hx.grow gA)
  have OY := Lib.hid (hy.grow gA)
  have GA := Lib.hid gA
  clear hx hy gA
  go_enter Try.func58, Try.ntmps58
  go_upto_region 1 with (fail)
  generalize (w.alloc (.cells #[.string x.n, .slice x.a x.xs.length x.cap] 95)).alloc (.cells #[.string y.n, .slice y.a y.xs.length y.cap] 95) = W1 at *
  obtain ⟨P, hP⟩ : ∃ P, P = w.heap.size := ⟨_, rfl⟩
  obtain ⟨Q, hQ⟩ : ∃ Q, Q = w.heap.size + 1 := ⟨_, rfl⟩
  rw [← hP] at b1
  rw [← hQ] at b2
  rw [← hQ, ← hP]
  clear hP hQ
  obtain ⟨p0, p1⟩ := b1.two
  obtain ⟨q0, q1⟩ := b2.two
  obtain ⟨n, hn⟩ : ∃ n, n = x.xs.length := ⟨_, rfl⟩
  obtain ⟨m, hm⟩ : ∃ m, m = y.xs.length := ⟨_, rfl⟩
  rw [← hn] at p1 hlx
  rw [← hm] at q1 hly
  have HN := Lib.hid hn
  have HM := Lib.hid hm
  clear hn hm
  by_cases h3 : x.n = y.n
  rotate_left
  · have d3b := toList_neS h3
    have d3 : (x.n.toList != y.n.toList) = true := by simpa using d3b
    have F := Lib.hid (show ¬ dty x = dty y from fun e => h3 ((dty_iff x y).1 e).1)
    clear h3
    go_wp2_with fail
    go_ret
    exact eqGw_false F.out GA.out
  have d3 : (x.n.toList != y.n.toList) = false := by rw [h3]; simp
  have d3b : (x.n.toList == y.n.toList) = true := by rw [h3]; simp
  have H3 := Lib.hid h3
  clear h3
  by_cases hnm : n = m
  rotate_left
  · have z1 : ((n : Int) != (m : Int)) = true := by simp; omega
    have F := Lib.hid (show ¬ dty x = dty y from fun e => hnm (by rw [HN.out, HM.out]; exact (map_iff.1 ((dty_iff x y).1 e).2).1))
    clear hnm
    go_wp2_with fail
    go_ret
    exact eqGw_false F.out GA.out
  subst hnm
  have z1 : ((n : Int) != (n : Int)) = false := by simp
  have B1 := Lib.hid b1
  have B2 := Lib.hid b2
  clear b1 b2
  go_wp2_with fail
  clear p0 p1 q0 q1 z1
  go_loopw [5] (fun i wr => ∃ j : Nat, j ≤ n ∧ i = .int .i64 j ∧ Gw W1 wr ∧ ∀ i (hx : i < x.xs.length) (hy : i < y.xs.length), i < j → cty x.xs[i] = cty y.xs[i]) (fun i _ => n - (intOf i).toNat)
  case atStart => exact ⟨0, by omega, rfl, Gw.refl _, fun i _ _ h => absurd h (by omega)⟩
  case round =>
    obtain ⟨j, hj, rfl, hg, hall⟩ := hrel
    have HALL := Lib.hid hall
    have HG := Lib.hid hg
    clear hall
    obtain ⟨_, p1⟩ := (B1.out.grow hg).two
    obtain ⟨_, q1⟩ := (B2.out.grow hg).two
    rw [← HN.out] at p1
    rw [← HM.out] at q1
    by_cases hlt : j < n
    · have hjx : j < x.xs.length := by have := HN.out; omega
      have hjy : j < y.xs.length := by have := HM.out; omega
      obtain ⟨b1, o1, e1, r1⟩ := (OX.out.grow hg).2.2.2.resolve_left (fun e => by rw [e] at hjx; simp at hjx)
      obtain ⟨b2, o2, e2, r2⟩ := (OY.out.grow hg).2.2.2.resolve_left (fun e => by rw [e] at hjy; simp at hjy)
      obtain ⟨c0, c1, k1⟩ := r1 j hjx
      obtain ⟨d0, d1, k2⟩ := r2 j hjy
      rw [e1] at p1
      rw [e2] at q1
      have s0 : (0 : Int) ≤ j := by omega
      have s1 : (j : Int) < n := by omega
      have K1 := Lib.hid k1
      have K2 := Lib.hid k2
      clear r1 r2 k1 k2 hg e1 e2
      have CE := Lib.hid (cty_iff x.xs[j] y.xs[j])
      have FE := Lib.hid (show ¬ cty x.xs[j] = cty y.xs[j] → ¬ dty x = dty y from fun hn e => hn ((map_iff.1 ((dty_iff x y).1 e).2).2 j hjx hjy))
      have HALL2 := Lib.hid (show cty x.xs[j] = cty y.xs[j] → ∀ i (hx : i < x.xs.length) (hy : i < y.xs.length), i < j + 1 → cty x.xs[i] = cty y.xs[i] from fun he i hx hy hi => by
        by_cases e : i = j
        · subst e; exact he
        · exact HALL.out i hx hy (by omega))
      clear HALL
      generalize x.xs[j] = c at *
      generalize y.xs[j] = d at *
      have lP : P < wr.heap.size := cell_lt p1
      have lQ : Q < wr.heap.size := cell_lt q1
      have lX : b1 < wr.heap.size := cell_lt c0
      have lY : b2 < wr.heap.size := cell_lt d0
      go_upto_region 6 with (fail)
      by_cases h4 : c.n = d.n
      rotate_left
      · have e4b := toList_neS h4
        have e4 : (c.n.toList != d.n.toList) = true := by simpa using e4b
        have F := Lib.hid (FE.out fun e => h4 (CE.out.1 e).1)
        clear h4
        go_quiet (fail)
        go_wp2_with fail
        go_ret
        exact eqGw_false F.out (GA.out.trans (gw_drewN HG.out _))
      have e4 : (c.n.toList != d.n.toList) = false := by rw [h4]; simp
      have e4b : (c.n.toList == d.n.toList) = true := by rw [h4]; simp
      have H4 := Lib.hid h4
      clear h4
      go_region_held3 (fun W => W.cell? ⟨P, 1, none⟩ = some (.slice (some ⟨b1, o1, none⟩) n x.cap) ∧ W.cell? ⟨Q, 1, none⟩ = some (.slice (some ⟨b2, o2, none⟩) n y.cap) ∧ W.cell? ⟨b1, o1 + j * 2, none⟩ = some (.string c.n) ∧ W.cell? ⟨b1, o1 + j * 2 + 1, none⟩ = some (.slice c.a c.xs.length c.cap) ∧ W.cell? ⟨b2, o2 + j * 2, none⟩ = some (.string d.n) ∧ W.cell? ⟨b2, o2 + j * 2 + 1, none⟩ = some (.slice d.a d.xs.length d.cap))
        (first | exact ⟨p1, q1, c0, c1, d0, d1⟩ | exact ⟨(k2 _ _ lP).trans p1, (k2 _ _ lQ).trans q1, (k2 _ _ lX).trans c0, (k2 _ _ lX).trans c1, (k2 _ _ lY).trans d0, (k2 _ _ lY).trans d1⟩)
        (first | (go_at_call 94; refine (spec_sTypes c.xs d.xs _ c.a d.a c.cap d.cap (by exact K1.out.2.grow (Gw.refl wr).drew) (by exact K2.out.2.grow (Gw.refl wr).drew)).mono ?_; rintro e w2 ⟨r, rfl, hr, g2⟩; have k2 : ∀ b o, b < wr.heap.size → w2.cell? ⟨b, o, none⟩ = wr.cell? ⟨b, o, none⟩ := fun b o h => (bcell g2).1 b o h))
      have HR := Lib.hid hr
      have G2 := Lib.hid (HG.out.drew.trans g2)
      clear hr g2 k2 c0 c1 d0 d1 p1 q1
      cases r with
      | false =>
        have F := Lib.hid (FE.out fun e => by have := HR.out.2 (CE.out.1 e).2; cases this)
        clear HR
        go_wp2_with fail
        go_ret
        exact eqGw_false F.out (GA.out.trans G2.out)
      | true =>
        have HE := Lib.hid (CE.out.2 ⟨H4.out, HR.out.1 rfl⟩)
        clear HR
        go_wp2_with fail
        go_roundw
        case rel => exact ⟨j + 1, by omega, by go_num, G2.out, HALL2.out HE.out⟩
        case measure => simp [intOf]; omega
    · obtain rfl : j = n := by omega
      have F := Lib.hid (show dty x = dty y from (dty_iff x y).2 ⟨H3.out, map_iff.2 ⟨HN.out.symm.trans HM.out, fun i hx hy => HALL.out i hx hy (by have := HN.out; omega)⟩⟩)
      go_wp2_with fail
      go_ret
      exact eqGw_true F.out (GA.out.trans HG.out)

theorem df_iff (x y : LF) : x.df = y.df ↔ x.n = y.n ∧ x.t.ty = y.t.ty ∧ x.u.tm = y.u.tm := by unfold LF.df; simp
theorem pr_iff (p q : LP) : p.pr = q.pr ↔ p.ds.map dty = q.ds.map dty ∧ p.fs.map LF.df = q.fs.map LF.df := by unfold LP.pr; simp

set_option maxRecDepth 100000 in
set_option maxHeartbeats 2000000 in
theorem spec_sProg (p q : LP) (w : World) (hp : pOk w p) (hq : pOk w q) : Calls Try.prog 24 #[p.val, q.val] w (EqGw (p.pr = q.pr) w) := by
  have hpd : p.ds.length ≤ 9223372036854775807 := Nat.le_trans hp.1.1 hp.1.2.1
  have hqd : q.ds.length ≤ 9223372036854775807 := Nat.le_trans hq.1.1 hq.1.2.1
  have hpf : p.fs.length ≤ 9223372036854775807 := Nat.le_trans hp.2.1 hp.2.2.1
  have hqf : q.fs.length ≤ 9223372036854775807 := Nat.le_trans hq.2.1 hq.2.2.1
  have gA : Gw w ((w.alloc (.cells #[.slice p.da p.ds.length p.dc, .slice p.fa p.fs.length p.fc] 55)).alloc (.cells #[.slice q.da q.ds.length q.dc, .slice q.fa q.fs.length q.fc] 55)) := ((Gw.refl w).alloc _).alloc _
  have b1 := (BoxV.new w #[.slice p.da p.ds.length p.dc, .slice p.fa p.fs.length p.fc] 55).grow ((Gw.refl _).alloc (.cells #[.slice q.da q.ds.length q.dc, .slice q.fa q.fs.length q.fc] 55))
  have b2 := BoxV.new (w.alloc (.cells #[.slice p.da p.ds.length p.dc, .slice p.fa p.fs.length p.fc] 55)) #[.slice q.da q.ds.length q.dc, .slice q.fa q.fs.length q.fc] 55
  rw [World.size_alloc] at b2
  have OX := Lib.hid (hp.grow gA)
  have OY := Lib.hid (hq.grow gA)
  have GA := Lib.hid gA
  clear hp hq gA
  go_enter Try.func24, Try.ntmps24
  go_upto_region 1 with (fail)
  generalize (w.alloc (.cells #[.slice p.da p.ds.length p.dc, .slice p.fa p.fs.length p.fc] 55)).alloc (.cells #[.slice q.da q.ds.length q.dc, .slice q.fa q.fs.length q.fc] 55) = W1 at *
  obtain ⟨P, hP⟩ : ∃ P, P = w.heap.size := ⟨_, rfl⟩
  obtain ⟨Q, hQ⟩ : ∃ Q, Q = w.heap.size + 1 := ⟨_, rfl⟩
  rw [← hP] at b1
  rw [← hQ] at b2
  rw [← hQ, ← hP]
  clear hP hQ
  obtain ⟨p0, p1⟩ := b1.two
  obtain ⟨q0, q1⟩ := b2.two
  obtain ⟨dm, hdm⟩ : ∃ m, m = q.ds.length := ⟨_, rfl⟩
  obtain ⟨n, hn⟩ : ∃ m, m = q.fs.length := ⟨_, rfl⟩
  rw [← hdm] at q0 hqd
  rw [← hn] at q1 hqf
  have HDM := Lib.hid hdm
  have HFM := Lib.hid hn
  clear hdm hn
  by_cases h1 : p.ds.length = dm
  rotate_left
  · have z1 : ((p.ds.length : Int) != (dm : Int)) = true := by simp; omega
    have F := Lib.hid (show ¬ p.pr = q.pr from fun e => h1 (by rw [HDM.out]; exact (map_iff.1 ((pr_iff p q).1 e).1).1))
    clear h1
    go_wp2_with fail
    go_ret
    exact eqGw_false F.out GA.out
  obtain rfl := h1
  have z1 : ((p.ds.length : Int) != (p.ds.length : Int)) = false := by simp
  by_cases h2 : p.fs.length = n
  rotate_left
  · have z2 : ((p.fs.length : Int) != (n : Int)) = true := by simp; omega
    have F := Lib.hid (show ¬ p.pr = q.pr from fun e => h2 (by rw [HFM.out]; exact (map_iff.1 ((pr_iff p q).1 e).2).1))
    clear h2
    go_wp2_with fail
    go_ret
    exact eqGw_false F.out GA.out
  have z2 : ((p.fs.length : Int) != (n : Int)) = false := by simp; omega
  have H2 := Lib.hid h2
  clear h2
  have B1 := Lib.hid b1
  have B2 := Lib.hid b2
  clear b1 b2
  go_wp2_with fail
  clear p0 p1 q0 q1 z1 z2
  go_loopw [5] (fun i wr => ∃ j : Nat, j ≤ p.ds.length ∧ i = .int .i64 j ∧ Gw W1 wr ∧ ∀ i (hx : i < p.ds.length) (hy : i < q.ds.length), i < j → dty p.ds[i] = dty q.ds[i]) (fun i _ => p.ds.length - (intOf i).toNat)
  case atStart => exact ⟨0, by omega, rfl, Gw.refl _, fun i _ _ h => absurd h (by omega)⟩
  case round =>
    obtain ⟨j, hj, rfl, hg, hall⟩ := hrel
    have HALL := Lib.hid hall
    have HG := Lib.hid hg
    clear hall
    obtain ⟨p0, _⟩ := (B1.out.grow hg).two
    obtain ⟨q0, _⟩ := (B2.out.grow hg).two
    rw [← HDM.out] at q0
    by_cases hlt : j < p.ds.length
    · have hjy : j < q.ds.length := by have := HDM.out; omega
      obtain ⟨b1, o1, e1, r1⟩ := (OX.out.grow hg).1.2.2.resolve_left (fun e => by rw [e] at hlt; simp at hlt)
      obtain ⟨b2, o2, e2, r2⟩ := (OY.out.grow hg).1.2.2.resolve_left (fun e => by rw [e] at hjy; simp at hjy)
      obtain ⟨c0, c1, k1⟩ := r1 j hlt
      obtain ⟨d0, d1, k2⟩ := r2 j hjy
      rw [e1] at p0
      rw [e2] at q0
      have s0 : (0 : Int) ≤ j := by omega
      have s1 : (j : Int) < p.ds.length := by omega
      have K1 := Lib.hid (k1.grow (Gw.refl wr).drew)
      have K2 := Lib.hid (k2.grow (Gw.refl wr).drew)
      clear r1 r2 k1 k2 hg e1 e2
      go_wp2_with fail
      go_still_tail 10, (by kernel_rfl)
      change wpList _ _ _ _ _ wr.drew
      clear p0 q0 c0 c1 d0 d1
      have HGD := Lib.hid (show Gw W1 wr.drew from HG.out.drew)
      clear HG
      generalize wr.drew = w4 at *
      go_wp2_with fail
      refine (spec_sData p.ds[j] q.ds[j] w4 K1.out K2.out).mono ?_
      rintro e w5 ⟨r, rfl, hr, g5⟩
      have HG5 := Lib.hid (HGD.out.trans g5)
      clear g5
      cases r with
      | false =>
        have F := Lib.hid (show ¬ p.pr = q.pr from fun e => by have := hr.2 ((map_iff.1 ((pr_iff p q).1 e).1).2 j hlt hjy); cases this)
        clear hr
        go_wp2_with fail
        go_ret
        exact eqGw_false F.out (GA.out.trans HG5.out)
      | true =>
        have HE := Lib.hid (hr.1 rfl)
        clear hr
        go_wp2_with fail
        go_roundw
        case rel =>
          refine ⟨j + 1, by omega, by go_num, HG5.out, fun i hx hy hi => ?_⟩
          by_cases e : i = j
          · subst e; exact HE.out
          · exact HALL.out i hx hy (by omega)
        case measure => simp [intOf]; omega
    · obtain rfl : j = p.ds.length := by omega
      have HD := Lib.hid (show p.ds.map dty = q.ds.map dty from map_iff.2 ⟨HDM.out, fun i hx hy => HALL.out i hx hy hx⟩)
      clear HALL hlt hj
      have G2 := Lib.hid (GA.out.trans hg)
      replace OX := Lib.hid (OX.out.grow hg)
      replace OY := Lib.hid (OY.out.grow hg)
      replace B1 := Lib.hid (B1.out.grow hg)
      replace B2 := Lib.hid (B2.out.grow hg)
      clear hg HG GA
      obtain ⟨wd, rfl⟩ : ∃ wd : World, wd = wr := ⟨_, rfl⟩
      go_wp2_with fail
      clear p0 q0
      go_loopw [6] (fun i wr => ∃ j : Nat, j ≤ p.fs.length ∧ i = .int .i64 j ∧ Gw wd wr ∧ ∀ i (hx : i < p.fs.length) (hy : i < q.fs.length), i < j → p.fs[i].df = q.fs[i].df) (fun i _ => p.fs.length - (intOf i).toNat)
      case atStart => exact ⟨0, by omega, rfl, Gw.refl _, fun i _ _ h => absurd h (by omega)⟩
      case round =>
        obtain ⟨j, hj, rfl, hg, hall⟩ := hrel
        have HALL := Lib.hid hall
        have HG := Lib.hid (G2.out.trans hg)
        have HGD := Lib.hid hg
        clear hall
        obtain ⟨_, P1⟩ := (B1.out.grow hg).two
        obtain ⟨_, Q1⟩ := (B2.out.grow hg).two
        rw [← HFM.out] at Q1
        by_cases hlt : j < p.fs.length
        · have hjy : j < q.fs.length := by have := HFM.out; have := H2.out; omega
          obtain ⟨b1, o1, e1, r1⟩ := (OX.out.grow hg).2.2.2.resolve_left (fun e => by rw [e] at hlt; simp at hlt)
          obtain ⟨b2, o2, e2, r2⟩ := (OY.out.grow hg).2.2.2.resolve_left (fun e => by rw [e] at hjy; simp at hjy)
          obtain ⟨c0, c1, c2, c3, c4, c5, c6, c7, c8, c9, c10, c11, k1⟩ := dfRow_get r1 j hlt
          obtain ⟨d0, d1, d2, d3, d4, d5, d6, d7, d8, d9, d10, d11, k2⟩ := dfRow_get r2 j hjy
          rw [e1] at P1
          rw [e2] at Q1
          have s0 : (0 : Int) ≤ j := by omega
          have s1 : (j : Int) < p.fs.length := by omega
          have s2 : (j : Int) < n := by have := H2.out; omega
          have DX := Lib.hid k1
          have DY := Lib.hid k2
          clear r1 r2 k1 k2 hg e1 e2
          have CE := Lib.hid (df_iff p.fs[j] q.fs[j])
          have FE := Lib.hid (show ¬ p.fs[j].df = q.fs[j].df → ¬ p.pr = q.pr from fun hn e => hn ((map_iff.1 ((pr_iff p q).1 e).2).2 j hlt hjy))
          have HALL2 := Lib.hid (show p.fs[j].df = q.fs[j].df → ∀ i (hx : i < p.fs.length) (hy : i < q.fs.length), i < j + 1 → p.fs[i].df = q.fs[i].df from fun he i hx hy hi => by
            by_cases e : i = j
            · subst e; exact he
            · exact HALL.out i hx hy (by omega))
          clear HALL
          generalize p.fs[j] = x at *
          generalize q.fs[j] = y at *
          have lP : P < wr.heap.size := cell_lt P1
          have lQ : Q < wr.heap.size := cell_lt Q1
          have lX : b1 < wr.heap.size := cell_lt c0
          have lY : b2 < wr.heap.size := cell_lt d0
          go_upto_region 11 with (fail)
          by_cases h4 : x.n = y.n
          rotate_left
          · have e4b := toList_neS h4
            have e4 : (x.n.toList != y.n.toList) = true := by simpa using e4b
            have F := Lib.hid (FE.out fun e => h4 (CE.out.1 e).1)
            clear h4
            go_quiet (fail)
            go_wp2_with fail
            go_ret
            exact eqGw_false F.out (gw_drewN HG.out _)
          have e4 : (x.n.toList != y.n.toList) = false := by rw [h4]; simp
          have e4b : (x.n.toList == y.n.toList) = true := by rw [h4]; simp
          have H4 := Lib.hid h4
          clear h4
          by_cases h5 : x.t.ty = y.t.ty
          rotate_left
          · have HT := Lib.hid h5
            have F := Lib.hid (FE.out fun e => h5 (CE.out.1 e).2.1)
            clear h5
            refine wp_region_held_drew (S := fun W => W.cell? ⟨P, 1, none⟩ = some (.slice (some ⟨b1, o1, none⟩) p.fs.length p.fc) ∧ W.cell? ⟨Q, 1, none⟩ = some (.slice (some ⟨b2, o2, none⟩) n q.fc) ∧ W.cell? ⟨b1, o1 + j * 12, none⟩ = some (.string x.n) ∧ W.cell? ⟨b1, o1 + j * 12 + 1, none⟩ = some (.int .i64 x.t.k) ∧ W.cell? ⟨b1, o1 + j * 12 + 2, none⟩ = some (.string x.t.n) ∧ W.cell? ⟨b1, o1 + j * 12 + 3, none⟩ = some (.slice x.t.a x.t.ks.length x.t.cap) ∧ W.cell? ⟨b1, o1 + j * 12 + 4, none⟩ = some (.int .i64 x.u.k) ∧ W.cell? ⟨b1, o1 + j * 12 + 5, none⟩ = some (.int .i64 x.u.m) ∧ W.cell? ⟨b1, o1 + j * 12 + 6, none⟩ = some (.string x.u.n) ∧ W.cell? ⟨b1, o1 + j * 12 + 7, none⟩ = some (.int .i64 x.u.t.k) ∧ W.cell? ⟨b1, o1 + j * 12 + 8, none⟩ = some (.string x.u.t.n) ∧ W.cell? ⟨b1, o1 + j * 12 + 9, none⟩ = some (.slice x.u.t.a x.u.t.ks.length x.u.t.cap) ∧ W.cell? ⟨b1, o1 + j * 12 + 10, none⟩ = some (.slice x.u.na x.u.ns.length x.u.nc) ∧ W.cell? ⟨b1, o1 + j * 12 + 11, none⟩ = some (.slice x.u.a x.u.ks.length x.u.cap) ∧ W.cell? ⟨b2, o2 + j * 12, none⟩ = some (.string y.n) ∧ W.cell? ⟨b2, o2 + j * 12 + 1, none⟩ = some (.int .i64 y.t.k) ∧ W.cell? ⟨b2, o2 + j * 12 + 2, none⟩ = some (.string y.t.n) ∧ W.cell? ⟨b2, o2 + j * 12 + 3, none⟩ = some (.slice y.t.a y.t.ks.length y.t.cap) ∧ W.cell? ⟨b2, o2 + j * 12 + 4, none⟩ = some (.int .i64 y.u.k) ∧ W.cell? ⟨b2, o2 + j * 12 + 5, none⟩ = some (.int .i64 y.u.m) ∧ W.cell? ⟨b2, o2 + j * 12 + 6, none⟩ = some (.string y.u.n) ∧ W.cell? ⟨b2, o2 + j * 12 + 7, none⟩ = some (.int .i64 y.u.t.k) ∧ W.cell? ⟨b2, o2 + j * 12 + 8, none⟩ = some (.string y.u.t.n) ∧ W.cell? ⟨b2, o2 + j * 12 + 9, none⟩ = some (.slice y.u.t.a y.u.t.ks.length y.u.t.cap) ∧ W.cell? ⟨b2, o2 + j * 12 + 10, none⟩ = some (.slice y.u.na y.u.ns.length y.u.nc) ∧ W.cell? ⟨b2, o2 + j * 12 + 11, none⟩ = some (.slice y.u.a y.u.ks.length y.u.cap)) (by kernel_rfl) ?_ (fun hHeld => ?_)
            · exact ⟨P1, Q1, c0, c1, c2, c3, c4, c5, c6, c7, c8, c9, c10, c11, d0, d1, d2, d3, d4, d5, d6, d7, d8, d9, d10, d11⟩
            refine wpAnyH_take (i := 0) (oi := { dst := some 49, op := _, type := _, pos := _, after := _, guard := _ }) (v := .pointer (some ⟨P, 1, none⟩)) rfl (by kernel_rfl) (by kernel_rfl) (by kernel_rfl) (fun _ _ _ h => h) (Or.inl ⟨by rfl, ?_⟩) (by assumption) ?_
            · intro w hSw; (try dsimp only at hSw); go_simp
            try simp only [Act.put, List.setIfInBounds_toArray, List.set_cons_zero, List.set_cons_succ]
            refine wpAnyH_take (i := 1) (oi := { dst := some 50, op := _, type := _, pos := _, after := _, guard := _ }) (v := .slice (some ⟨b1, o1, none⟩) p.fs.length p.fc) rfl (by kernel_rfl) (by kernel_rfl) (by kernel_rfl) (fun _ _ _ h => h) (Or.inl ⟨by rfl, ?_⟩) (by assumption) ?_
            · intro w hSw; (try dsimp only at hSw); go_simp
            try simp only [Act.put, List.setIfInBounds_toArray, List.set_cons_zero, List.set_cons_succ]
            refine wpAnyH_take (i := 2) (oi := { dst := some 51, op := _, type := _, pos := _, after := _, guard := _ }) (v := .int .i64 j) rfl (by kernel_rfl) (by kernel_rfl) (by kernel_rfl) (fun _ _ _ h => h) (Or.inl ⟨by rfl, ?_⟩) (by assumption) ?_
            · intro w hSw; (try dsimp only at hSw); go_simp
            try simp only [Act.put, List.setIfInBounds_toArray, List.set_cons_zero, List.set_cons_succ]
            refine wpAnyH_take (i := 3) (oi := { dst := some 52, op := _, type := _, pos := _, after := _, guard := _ }) (v := .pointer (some ⟨b1, o1 + j * 12, none⟩)) rfl (by kernel_rfl) (by kernel_rfl) (by kernel_rfl) (fun _ _ _ h => h) (Or.inl ⟨by rfl, ?_⟩) (by assumption) ?_
            · intro w hSw; (try dsimp only at hSw); go_simp
            try simp only [Act.put, List.setIfInBounds_toArray, List.set_cons_zero, List.set_cons_succ]
            refine wpAnyH_take (i := 4) (oi := { dst := some 53, op := _, type := _, pos := _, after := _, guard := _ }) (v := .pointer (some ⟨b1, o1 + j * 12, none⟩)) rfl (by kernel_rfl) (by kernel_rfl) (by kernel_rfl) (fun _ _ _ h => h) (Or.inl ⟨by rfl, ?_⟩) (by assumption) ?_
            · intro w hSw; (try dsimp only at hSw); go_simp
            try simp only [Act.put, List.setIfInBounds_toArray, List.set_cons_zero, List.set_cons_succ]
            refine wpAnyH_take (i := 5) (oi := { dst := some 54, op := _, type := _, pos := _, after := _, guard := _ }) (v := .string x.n) rfl (by kernel_rfl) (by kernel_rfl) (by kernel_rfl) (fun _ _ _ h => h) (Or.inl ⟨by rfl, ?_⟩) (by assumption) ?_
            · intro w hSw; (try dsimp only at hSw); go_simp
            try simp only [Act.put, List.setIfInBounds_toArray, List.set_cons_zero, List.set_cons_succ]
            refine wpAnyH_take (i := 6) (oi := { dst := some 55, op := _, type := _, pos := _, after := _, guard := _ }) (v := .pointer (some ⟨Q, 1, none⟩)) rfl (by kernel_rfl) (by kernel_rfl) (by kernel_rfl) (fun _ _ _ h => h) (Or.inl ⟨by rfl, ?_⟩) (by assumption) ?_
            · intro w hSw; (try dsimp only at hSw); go_simp
            try simp only [Act.put, List.setIfInBounds_toArray, List.set_cons_zero, List.set_cons_succ]
            refine wpAnyH_take (i := 7) (oi := { dst := some 56, op := _, type := _, pos := _, after := _, guard := _ }) (v := .slice (some ⟨b2, o2, none⟩) n q.fc) rfl (by kernel_rfl) (by kernel_rfl) (by kernel_rfl) (fun _ _ _ h => h) (Or.inl ⟨by rfl, ?_⟩) (by assumption) ?_
            · intro w hSw; (try dsimp only at hSw); go_simp
            try simp only [Act.put, List.setIfInBounds_toArray, List.set_cons_zero, List.set_cons_succ]
            refine wpAnyH_take (i := 8) (oi := { dst := some 57, op := _, type := _, pos := _, after := _, guard := _ }) (v := .int .i64 j) rfl (by kernel_rfl) (by kernel_rfl) (by kernel_rfl) (fun _ _ _ h => h) (Or.inl ⟨by rfl, ?_⟩) (by assumption) ?_
            · intro w hSw; (try dsimp only at hSw); go_simp
            try simp only [Act.put, List.setIfInBounds_toArray, List.set_cons_zero, List.set_cons_succ]
            refine wpAnyH_take (i := 9) (oi := { dst := some 58, op := _, type := _, pos := _, after := _, guard := _ }) (v := .pointer (some ⟨b2, o2 + j * 12, none⟩)) rfl (by kernel_rfl) (by kernel_rfl) (by kernel_rfl) (fun _ _ _ h => h) (Or.inl ⟨by rfl, ?_⟩) (by assumption) ?_
            · intro w hSw; (try dsimp only at hSw); go_simp
            try simp only [Act.put, List.setIfInBounds_toArray, List.set_cons_zero, List.set_cons_succ]
            refine wpAnyH_take (i := 10) (oi := { dst := some 59, op := _, type := _, pos := _, after := _, guard := _ }) (v := .pointer (some ⟨b2, o2 + j * 12, none⟩)) rfl (by kernel_rfl) (by kernel_rfl) (by kernel_rfl) (fun _ _ _ h => h) (Or.inl ⟨by rfl, ?_⟩) (by assumption) ?_
            · intro w hSw; (try dsimp only at hSw); go_simp
            try simp only [Act.put, List.setIfInBounds_toArray, List.set_cons_zero, List.set_cons_succ]
            refine wpAnyH_take (i := 11) (oi := { dst := some 60, op := _, type := _, pos := _, after := _, guard := _ }) (v := .string y.n) rfl (by kernel_rfl) (by kernel_rfl) (by kernel_rfl) (fun _ _ _ h => h) (Or.inl ⟨by rfl, ?_⟩) (by assumption) ?_
            · intro w hSw; (try dsimp only at hSw); go_simp
            try simp only [Act.put, List.setIfInBounds_toArray, List.set_cons_zero, List.set_cons_succ]
            refine wpAnyH_take (i := 12) (oi := { dst := some 61, op := _, type := _, pos := _, after := _, guard := _ }) (v := .bool false) rfl (by kernel_rfl) (by kernel_rfl) (by kernel_rfl) (fun _ _ _ h => h) (Or.inl ⟨by rfl, ?_⟩) (by assumption) ?_
            · intro w hSw; (try dsimp only at hSw); go_simp
            try simp only [Act.put, List.setIfInBounds_toArray, List.set_cons_zero, List.set_cons_succ]
            refine wpAnyH_take (i := 13) (oi := { dst := some 62, op := _, type := _, pos := _, after := _, guard := _ }) (v := .bool false) rfl (by kernel_rfl) (by kernel_rfl) (by kernel_rfl) (fun _ _ _ h => h) (Or.inl ⟨by rfl, ?_⟩) (by assumption) ?_
            · intro w hSw; (try dsimp only at hSw); go_simp
            try simp only [Act.put, List.setIfInBounds_toArray, List.set_cons_zero, List.set_cons_succ]
            refine wpAnyH_take (i := 14) (oi := { dst := some 63, op := _, type := _, pos := _, after := _, guard := _ }) (v := .pointer (some ⟨P, 1, none⟩)) rfl (by kernel_rfl) (by kernel_rfl) (by kernel_rfl) (fun _ _ _ h => h) (Or.inl ⟨by rfl, ?_⟩) (by assumption) ?_
            · intro w hSw; (try dsimp only at hSw); go_simp
            try simp only [Act.put, List.setIfInBounds_toArray, List.set_cons_zero, List.set_cons_succ]
            refine wpAnyH_take (i := 15) (oi := { dst := some 64, op := _, type := _, pos := _, after := _, guard := _ }) (v := .slice (some ⟨b1, o1, none⟩) p.fs.length p.fc) rfl (by kernel_rfl) (by kernel_rfl) (by kernel_rfl) (fun _ _ _ h => h) (Or.inl ⟨by rfl, ?_⟩) (by assumption) ?_
            · intro w hSw; (try dsimp only at hSw); go_simp
            try simp only [Act.put, List.setIfInBounds_toArray, List.set_cons_zero, List.set_cons_succ]
            refine wpAnyH_take (i := 16) (oi := { dst := some 65, op := _, type := _, pos := _, after := _, guard := _ }) (v := .int .i64 j) rfl (by kernel_rfl) (by kernel_rfl) (by kernel_rfl) (fun _ _ _ h => h) (Or.inl ⟨by rfl, ?_⟩) (by assumption) ?_
            · intro w hSw; (try dsimp only at hSw); go_simp
            try simp only [Act.put, List.setIfInBounds_toArray, List.set_cons_zero, List.set_cons_succ]
            refine wpAnyH_take (i := 17) (oi := { dst := some 66, op := _, type := _, pos := _, after := _, guard := _ }) (v := .pointer (some ⟨b1, o1 + j * 12, none⟩)) rfl (by kernel_rfl) (by kernel_rfl) (by kernel_rfl) (fun _ _ _ h => h) (Or.inl ⟨by rfl, ?_⟩) (by assumption) ?_
            · intro w hSw; (try dsimp only at hSw); go_simp
            try simp only [Act.put, List.setIfInBounds_toArray, List.set_cons_zero, List.set_cons_succ]
            refine wpAnyH_take (i := 18) (oi := { dst := some 67, op := _, type := _, pos := _, after := _, guard := _ }) (v := .pointer (some ⟨b1, o1 + j * 12 + 1, none⟩)) rfl (by kernel_rfl) (by kernel_rfl) (by kernel_rfl) (fun _ _ _ h => h) (Or.inl ⟨by rfl, ?_⟩) (by assumption) ?_
            · intro w hSw; (try dsimp only at hSw); go_simp
            try simp only [Act.put, List.setIfInBounds_toArray, List.set_cons_zero, List.set_cons_succ]
            refine wpAnyH_take (i := 19) (oi := { dst := some 68, op := _, type := _, pos := _, after := _, guard := _ }) (v := .agg #[.int .i64 x.t.k, .string x.t.n, .slice x.t.a x.t.ks.length x.t.cap]) rfl (by kernel_rfl) (by kernel_rfl) (by kernel_rfl) (fun _ _ _ h => h) (Or.inl ⟨by rfl, ?_⟩) (by assumption) ?_
            · intro w hSw; (try dsimp only at hSw); go_simp
            try simp only [Act.put, List.setIfInBounds_toArray, List.set_cons_zero, List.set_cons_succ]
            refine wpAnyH_take (i := 20) (oi := { dst := some 69, op := _, type := _, pos := _, after := _, guard := _ }) (v := .pointer (some ⟨Q, 1, none⟩)) rfl (by kernel_rfl) (by kernel_rfl) (by kernel_rfl) (fun _ _ _ h => h) (Or.inl ⟨by rfl, ?_⟩) (by assumption) ?_
            · intro w hSw; (try dsimp only at hSw); go_simp
            try simp only [Act.put, List.setIfInBounds_toArray, List.set_cons_zero, List.set_cons_succ]
            refine wpAnyH_take (i := 21) (oi := { dst := some 70, op := _, type := _, pos := _, after := _, guard := _ }) (v := .slice (some ⟨b2, o2, none⟩) n q.fc) rfl (by kernel_rfl) (by kernel_rfl) (by kernel_rfl) (fun _ _ _ h => h) (Or.inl ⟨by rfl, ?_⟩) (by assumption) ?_
            · intro w hSw; (try dsimp only at hSw); go_simp
            try simp only [Act.put, List.setIfInBounds_toArray, List.set_cons_zero, List.set_cons_succ]
            refine wpAnyH_take (i := 22) (oi := { dst := some 71, op := _, type := _, pos := _, after := _, guard := _ }) (v := .int .i64 j) rfl (by kernel_rfl) (by kernel_rfl) (by kernel_rfl) (fun _ _ _ h => h) (Or.inl ⟨by rfl, ?_⟩) (by assumption) ?_
            · intro w hSw; (try dsimp only at hSw); go_simp
            try simp only [Act.put, List.setIfInBounds_toArray, List.set_cons_zero, List.set_cons_succ]
            refine wpAnyH_take (i := 23) (oi := { dst := some 72, op := _, type := _, pos := _, after := _, guard := _ }) (v := .pointer (some ⟨b2, o2 + j * 12, none⟩)) rfl (by kernel_rfl) (by kernel_rfl) (by kernel_rfl) (fun _ _ _ h => h) (Or.inl ⟨by rfl, ?_⟩) (by assumption) ?_
            · intro w hSw; (try dsimp only at hSw); go_simp
            try simp only [Act.put, List.setIfInBounds_toArray, List.set_cons_zero, List.set_cons_succ]
            refine wpAnyH_take (i := 24) (oi := { dst := some 73, op := _, type := _, pos := _, after := _, guard := _ }) (v := .pointer (some ⟨b2, o2 + j * 12 + 1, none⟩)) rfl (by kernel_rfl) (by kernel_rfl) (by kernel_rfl) (fun _ _ _ h => h) (Or.inl ⟨by rfl, ?_⟩) (by assumption) ?_
            · intro w hSw; (try dsimp only at hSw); go_simp
            try simp only [Act.put, List.setIfInBounds_toArray, List.set_cons_zero, List.set_cons_succ]
            refine wpAnyH_take (i := 25) (oi := { dst := some 74, op := _, type := _, pos := _, after := _, guard := _ }) (v := .agg #[.int .i64 y.t.k, .string y.t.n, .slice y.t.a y.t.ks.length y.t.cap]) rfl (by kernel_rfl) (by kernel_rfl) (by kernel_rfl) (fun _ _ _ h => h) (Or.inl ⟨by rfl, ?_⟩) (by assumption) ?_
            · intro w hSw; (try dsimp only at hSw); go_simp
            try simp only [Act.put, List.setIfInBounds_toArray, List.set_cons_zero, List.set_cons_succ]
            refine wpAnyH_ready (rs := [26]) (by kernel_rfl) (by simp) ?_
            refine AllReadyH.cons (o := { dst := some 75, op := _, type := _, pos := _, after := _, guard := _ }) rfl (fun K hK => ?_) AllReadyH.nil
            go_simp
            go_at_call 10
            refine (spec_same x.t y.t _ (DX.out.2.1.grow (Gw.refl wr).drew) (DY.out.2.1.grow (Gw.refl wr).drew)).mono ?_
            rintro e w2 ⟨r, rfl, hr, g2⟩
            have k2 : ∀ b o, b < wr.heap.size → w2.cell? ⟨b, o, none⟩ = wr.cell? ⟨b, o, none⟩ := fun b o h => (bcell g2).1 b o h
            obtain rfl : r = false := by cases r with | false => rfl | true => exact absurd (hr.1 rfl) HT.out
            clear hr
            go_wp2_with fail
            refine hK.out _ _ ⟨(k2 _ _ lP).trans P1, (k2 _ _ lQ).trans Q1, (k2 _ _ lX).trans c0, (k2 _ _ lX).trans c1, (k2 _ _ lX).trans c2, (k2 _ _ lX).trans c3, (k2 _ _ lX).trans c4, (k2 _ _ lX).trans c5, (k2 _ _ lX).trans c6, (k2 _ _ lX).trans c7, (k2 _ _ lX).trans c8, (k2 _ _ lX).trans c9, (k2 _ _ lX).trans c10, (k2 _ _ lX).trans c11, (k2 _ _ lY).trans d0, (k2 _ _ lY).trans d1, (k2 _ _ lY).trans d2, (k2 _ _ lY).trans d3, (k2 _ _ lY).trans d4, (k2 _ _ lY).trans d5, (k2 _ _ lY).trans d6, (k2 _ _ lY).trans d7, (k2 _ _ lY).trans d8, (k2 _ _ lY).trans d9, (k2 _ _ lY).trans d10, (k2 _ _ lY).trans d11⟩ (fun hHeld => ?_)
            clear hK K
            try simp only [Act.put, List.setIfInBounds_toArray, List.set_cons_zero, List.set_cons_succ]
            refine wpAnyH_take (i := 27) (oi := { dst := some 76, op := _, type := _, pos := _, after := _, guard := _ }) (v := .bool true) rfl (by kernel_rfl) (by kernel_rfl) (by kernel_rfl) (fun _ _ _ h => h) (Or.inl ⟨by rfl, ?_⟩) (by assumption) ?_
            · intro w hSw; (try dsimp only at hSw); go_simp
            try simp only [Act.put, List.setIfInBounds_toArray, List.set_cons_zero, List.set_cons_succ]
            refine wpAnyH_take (i := 28) (oi := { dst := some 77, op := _, type := _, pos := _, after := _, guard := _ }) (v := .bool true) rfl (by kernel_rfl) (by kernel_rfl) (by kernel_rfl) (fun _ _ _ h => h) (Or.inl ⟨by rfl, ?_⟩) (by assumption) ?_
            · intro w hSw; (try dsimp only at hSw); go_simp
            try simp only [Act.put, List.setIfInBounds_toArray, List.set_cons_zero, List.set_cons_succ]
            refine wpAnyH_take (i := 29) (oi := { dst := some 78, op := _, type := _, pos := _, after := _, guard := _ }) (v := .bool true) rfl (by kernel_rfl) (by kernel_rfl) (by kernel_rfl) (fun _ _ _ h => h) (Or.inl ⟨by rfl, ?_⟩) (by assumption) ?_
            · intro w hSw; (try dsimp only at hSw); go_simp
            try simp only [Act.put, List.setIfInBounds_toArray, List.set_cons_zero, List.set_cons_succ]
            refine wpAnyH_take (i := 30) (oi := { dst := some 79, op := _, type := _, pos := _, after := _, guard := _ }) (v := undef) rfl (by kernel_rfl) (by kernel_rfl) (by kernel_rfl) (fun _ _ _ h => h) (Or.inr ⟨by rfl, rfl⟩) (by assumption) ?_
            try simp only [Act.put, List.setIfInBounds_toArray, List.set_cons_zero, List.set_cons_succ]
            refine wpAnyH_take (i := 31) (oi := { dst := some 80, op := _, type := _, pos := _, after := _, guard := _ }) (v := undef) rfl (by kernel_rfl) (by kernel_rfl) (by kernel_rfl) (fun _ _ _ h => h) (Or.inr ⟨by rfl, rfl⟩) (by assumption) ?_
            try simp only [Act.put, List.setIfInBounds_toArray, List.set_cons_zero, List.set_cons_succ]
            refine wpAnyH_take (i := 32) (oi := { dst := some 81, op := _, type := _, pos := _, after := _, guard := _ }) (v := undef) rfl (by kernel_rfl) (by kernel_rfl) (by kernel_rfl) (fun _ _ _ h => h) (Or.inr ⟨by rfl, rfl⟩) (by assumption) ?_
            try simp only [Act.put, List.setIfInBounds_toArray, List.set_cons_zero, List.set_cons_succ]
            refine wpAnyH_take (i := 33) (oi := { dst := some 82, op := _, type := _, pos := _, after := _, guard := _ }) (v := undef) rfl (by kernel_rfl) (by kernel_rfl) (by kernel_rfl) (fun _ _ _ h => h) (Or.inr ⟨by rfl, rfl⟩) (by assumption) ?_
            try simp only [Act.put, List.setIfInBounds_toArray, List.set_cons_zero, List.set_cons_succ]
            refine wpAnyH_take (i := 34) (oi := { dst := some 83, op := _, type := _, pos := _, after := _, guard := _ }) (v := undef) rfl (by kernel_rfl) (by kernel_rfl) (by kernel_rfl) (fun _ _ _ h => h) (Or.inr ⟨by rfl, rfl⟩) (by assumption) ?_
            try simp only [Act.put, List.setIfInBounds_toArray, List.set_cons_zero, List.set_cons_succ]
            refine wpAnyH_take (i := 35) (oi := { dst := some 84, op := _, type := _, pos := _, after := _, guard := _ }) (v := undef) rfl (by kernel_rfl) (by kernel_rfl) (by kernel_rfl) (fun _ _ _ h => h) (Or.inr ⟨by rfl, rfl⟩) (by assumption) ?_
            try simp only [Act.put, List.setIfInBounds_toArray, List.set_cons_zero, List.set_cons_succ]
            refine wpAnyH_take (i := 36) (oi := { dst := some 85, op := _, type := _, pos := _, after := _, guard := _ }) (v := undef) rfl (by kernel_rfl) (by kernel_rfl) (by kernel_rfl) (fun _ _ _ h => h) (Or.inr ⟨by rfl, rfl⟩) (by assumption) ?_
            try simp only [Act.put, List.setIfInBounds_toArray, List.set_cons_zero, List.set_cons_succ]
            refine wpAnyH_take (i := 37) (oi := { dst := some 86, op := _, type := _, pos := _, after := _, guard := _ }) (v := undef) rfl (by kernel_rfl) (by kernel_rfl) (by kernel_rfl) (fun _ _ _ h => h) (Or.inr ⟨by rfl, rfl⟩) (by assumption) ?_
            try simp only [Act.put, List.setIfInBounds_toArray, List.set_cons_zero, List.set_cons_succ]
            refine wpAnyH_take (i := 38) (oi := { dst := some 87, op := _, type := _, pos := _, after := _, guard := _ }) (v := undef) rfl (by kernel_rfl) (by kernel_rfl) (by kernel_rfl) (fun _ _ _ h => h) (Or.inr ⟨by rfl, rfl⟩) (by assumption) ?_
            try simp only [Act.put, List.setIfInBounds_toArray, List.set_cons_zero, List.set_cons_succ]
            refine wpAnyH_take (i := 39) (oi := { dst := some 88, op := _, type := _, pos := _, after := _, guard := _ }) (v := undef) rfl (by kernel_rfl) (by kernel_rfl) (by kernel_rfl) (fun _ _ _ h => h) (Or.inr ⟨by rfl, rfl⟩) (by assumption) ?_
            try simp only [Act.put, List.setIfInBounds_toArray, List.set_cons_zero, List.set_cons_succ]
            refine wpAnyH_take (i := 40) (oi := { dst := some 89, op := _, type := _, pos := _, after := _, guard := _ }) (v := undef) rfl (by kernel_rfl) (by kernel_rfl) (by kernel_rfl) (fun _ _ _ h => h) (Or.inr ⟨by rfl, rfl⟩) (by assumption) ?_
            try simp only [Act.put, List.setIfInBounds_toArray, List.set_cons_zero, List.set_cons_succ]
            refine wpAnyH_take (i := 41) (oi := { dst := some 90, op := _, type := _, pos := _, after := _, guard := _ }) (v := undef) rfl (by kernel_rfl) (by kernel_rfl) (by kernel_rfl) (fun _ _ _ h => h) (Or.inr ⟨by rfl, rfl⟩) (by assumption) ?_
            try simp only [Act.put, List.setIfInBounds_toArray, List.set_cons_zero, List.set_cons_succ]
            refine wpAnyH_take (i := 42) (oi := { dst := some 91, op := _, type := _, pos := _, after := _, guard := _ }) (v := undef) rfl (by kernel_rfl) (by kernel_rfl) (by kernel_rfl) (fun _ _ _ h => h) (Or.inr ⟨by rfl, rfl⟩) (by assumption) ?_
            try simp only [Act.put, List.setIfInBounds_toArray, List.set_cons_zero, List.set_cons_succ]
            refine wpAnyH_take (i := 43) (oi := { dst := some 92, op := _, type := _, pos := _, after := _, guard := _ }) (v := undef) rfl (by kernel_rfl) (by kernel_rfl) (by kernel_rfl) (fun _ _ _ h => h) (Or.inr ⟨by rfl, rfl⟩) (by assumption) ?_
            try simp only [Act.put, List.setIfInBounds_toArray, List.set_cons_zero, List.set_cons_succ]
            refine wpAnyH_take (i := 44) (oi := { dst := some 93, op := _, type := _, pos := _, after := _, guard := _ }) (v := .bool true) rfl (by kernel_rfl) (by kernel_rfl) (by kernel_rfl) (fun _ _ _ h => h) (Or.inl ⟨by rfl, ?_⟩) (by assumption) ?_
            · intro w hSw; (try dsimp only at hSw); go_simp
            try simp only [Act.put, List.setIfInBounds_toArray, List.set_cons_zero, List.set_cons_succ]
            refine wpAnyH_done (by kernel_rfl) ?_ _
            go_wp2_with fail
            go_ret
            exact eqGw_false F.out (HG.out.drew.trans g2)
          have H5 := Lib.hid h5
          clear h5
          go_region_held3 (fun W => W.cell? ⟨P, 1, none⟩ = some (.slice (some ⟨b1, o1, none⟩) p.fs.length p.fc) ∧ W.cell? ⟨Q, 1, none⟩ = some (.slice (some ⟨b2, o2, none⟩) n q.fc) ∧ W.cell? ⟨b1, o1 + j * 12, none⟩ = some (.string x.n) ∧ W.cell? ⟨b1, o1 + j * 12 + 1, none⟩ = some (.int .i64 x.t.k) ∧ W.cell? ⟨b1, o1 + j * 12 + 2, none⟩ = some (.string x.t.n) ∧ W.cell? ⟨b1, o1 + j * 12 + 3, none⟩ = some (.slice x.t.a x.t.ks.length x.t.cap) ∧ W.cell? ⟨b1, o1 + j * 12 + 4, none⟩ = some (.int .i64 x.u.k) ∧ W.cell? ⟨b1, o1 + j * 12 + 5, none⟩ = some (.int .i64 x.u.m) ∧ W.cell? ⟨b1, o1 + j * 12 + 6, none⟩ = some (.string x.u.n) ∧ W.cell? ⟨b1, o1 + j * 12 + 7, none⟩ = some (.int .i64 x.u.t.k) ∧ W.cell? ⟨b1, o1 + j * 12 + 8, none⟩ = some (.string x.u.t.n) ∧ W.cell? ⟨b1, o1 + j * 12 + 9, none⟩ = some (.slice x.u.t.a x.u.t.ks.length x.u.t.cap) ∧ W.cell? ⟨b1, o1 + j * 12 + 10, none⟩ = some (.slice x.u.na x.u.ns.length x.u.nc) ∧ W.cell? ⟨b1, o1 + j * 12 + 11, none⟩ = some (.slice x.u.a x.u.ks.length x.u.cap) ∧ W.cell? ⟨b2, o2 + j * 12, none⟩ = some (.string y.n) ∧ W.cell? ⟨b2, o2 + j * 12 + 1, none⟩ = some (.int .i64 y.t.k) ∧ W.cell? ⟨b2, o2 + j * 12 + 2, none⟩ = some (.string y.t.n) ∧ W.cell? ⟨b2, o2 + j * 12 + 3, none⟩ = some (.slice y.t.a y.t.ks.length y.t.cap) ∧ W.cell? ⟨b2, o2 + j * 12 + 4, none⟩ = some (.int .i64 y.u.k) ∧ W.cell? ⟨b2, o2 + j * 12 + 5, none⟩ = some (.int .i64 y.u.m) ∧ W.cell? ⟨b2, o2 + j * 12 + 6, none⟩ = some (.string y.u.n) ∧ W.cell? ⟨b2, o2 + j * 12 + 7, none⟩ = some (.int .i64 y.u.t.k) ∧ W.cell? ⟨b2, o2 + j * 12 + 8, none⟩ = some (.string y.u.t.n) ∧ W.cell? ⟨b2, o2 + j * 12 + 9, none⟩ = some (.slice y.u.t.a y.u.t.ks.length y.u.t.cap) ∧ W.cell? ⟨b2, o2 + j * 12 + 10, none⟩ = some (.slice y.u.na y.u.ns.length y.u.nc) ∧ W.cell? ⟨b2, o2 + j * 12 + 11, none⟩ = some (.slice y.u.a y.u.ks.length y.u.cap))
            (first | exact ⟨P1, Q1, c0, c1, c2, c3, c4, c5, c6, c7, c8, c9, c10, c11, d0, d1, d2, d3, d4, d5, d6, d7, d8, d9, d10, d11⟩ | exact ⟨(k2 _ _ lP).trans P1, (k2 _ _ lQ).trans Q1, (k2 _ _ lX).trans c0, (k2 _ _ lX).trans c1, (k2 _ _ lX).trans c2, (k2 _ _ lX).trans c3, (k2 _ _ lX).trans c4, (k2 _ _ lX).trans c5, (k2 _ _ lX).trans c6, (k2 _ _ lX).trans c7, (k2 _ _ lX).trans c8, (k2 _ _ lX).trans c9, (k2 _ _ lX).trans c10, (k2 _ _ lX).trans c11, (k2 _ _ lY).trans d0, (k2 _ _ lY).trans d1, (k2 _ _ lY).trans d2, (k2 _ _ lY).trans d3, (k2 _ _ lY).trans d4, (k2 _ _ lY).trans d5, (k2 _ _ lY).trans d6, (k2 _ _ lY).trans d7, (k2 _ _ lY).trans d8, (k2 _ _ lY).trans d9, (k2 _ _ lY).trans d10, (k2 _ _ lY).trans d11⟩ | exact ⟨(k3 _ _ lP).trans P1, (k3 _ _ lQ).trans Q1, (k3 _ _ lX).trans c0, (k3 _ _ lX).trans c1, (k3 _ _ lX).trans c2, (k3 _ _ lX).trans c3, (k3 _ _ lX).trans c4, (k3 _ _ lX).trans c5, (k3 _ _ lX).trans c6, (k3 _ _ lX).trans c7, (k3 _ _ lX).trans c8, (k3 _ _ lX).trans c9, (k3 _ _ lX).trans c10, (k3 _ _ lX).trans c11, (k3 _ _ lY).trans d0, (k3 _ _ lY).trans d1, (k3 _ _ lY).trans d2, (k3 _ _ lY).trans d3, (k3 _ _ lY).trans d4, (k3 _ _ lY).trans d5, (k3 _ _ lY).trans d6, (k3 _ _ lY).trans d7, (k3 _ _ lY).trans d8, (k3 _ _ lY).trans d9, (k3 _ _ lY).trans d10, (k3 _ _ lY).trans d11⟩)
            (first
              | (go_at_call 10; refine (spec_same_yes x.t y.t _ (by exact DX.out.2.1.grow (Gw.refl wr).drew) (by exact DY.out.2.1.grow (Gw.refl wr).drew) H5.out).mono ?_; rintro e w2 ⟨rfl, g2⟩; have k2 : ∀ b o, b < wr.heap.size → w2.cell? ⟨b, o, none⟩ = wr.cell? ⟨b, o, none⟩ := fun b o h => (bcell g2).1 b o h)
              | (go_at_call 19; refine (spec_sameT x.u y.u _ (by exact DX.out.2.2.grow ((Gw.refl wr).drew.trans g2)) (by exact DY.out.2.2.grow ((Gw.refl wr).drew.trans g2))).mono ?_; rintro e w3 ⟨s, rfl, hs, g3⟩; have k3 : ∀ b o, b < wr.heap.size → w3.cell? ⟨b, o, none⟩ = wr.cell? ⟨b, o, none⟩ := fun b o h => ((bcell g3).1 b o (Nat.lt_of_lt_of_le h g2.size)).trans (k2 b o h)))
          have HS := Lib.hid hs
          have G3 := Lib.hid ((HGD.out.drew.trans g2).trans g3)
          clear hs g2 g3 k2 k3 c0 c1 c2 c3 c4 c5 c6 c7 c8 c9 c10 c11 d0 d1 d2 d3 d4 d5 d6 d7 d8 d9 d10 d11 P1 Q1
          cases s with
          | false =>
            have F := Lib.hid (FE.out fun e => by have := HS.out.2 (CE.out.1 e).2.2; cases this)
            clear HS
            go_wp2_with fail
            go_ret
            exact eqGw_false F.out (G2.out.trans G3.out)
          | true =>
            have HE := Lib.hid (CE.out.2 ⟨H4.out, H5.out, HS.out.1 rfl⟩)
            clear HS
            go_wp2_with fail
            go_roundw
            case rel => exact ⟨j + 1, by omega, by go_num, G3.out, HALL2.out HE.out⟩
            case measure => simp [intOf]; omega
        · obtain rfl : j = p.fs.length := by omega
          have F := Lib.hid (show p.pr = q.pr from (pr_iff p q).2 ⟨HD.out, map_iff.2 ⟨H2.out.trans HFM.out, fun i hx hy => HALL.out i hx hy hx⟩⟩)
          go_wp2_with fail
          go_ret
          exact eqGw_true F.out HG.out

end Go.Proofs.Ytbbldkhlclfmkaa.Con
