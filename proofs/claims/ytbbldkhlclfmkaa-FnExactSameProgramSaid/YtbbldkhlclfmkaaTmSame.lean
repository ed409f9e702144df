/-
  Contract of SameTerm in the model, and of the functions that compare rows of texts. No condition but that both lie in memory.
-/
import Derived.Test.YtbbldkhlclfmkaaTm
import Derived.Test.YtbbldkhlclfmkaaStrS
import Derived.Test.YtbbldkhlclfmkaaTySmS
import Derived.LoopTactic
import Derived.Deep.QuietTactic
import Derived.BigQuiet
import Derived.Deep.Cut
import Derived.StillTailTactics
namespace Go.Proofs.Ytbbldkhlclfmkaa.Con
open Go.RowKit
set_option linter.unusedVariables false

theorem toList_neS {a b : ByteArray} (h : ¬ a = b) : (a.toList == b.toList) = false := by
  simp only [beq_eq_false_iff_ne, ne_eq]
  exact fun e => h (by rw [ByteArray.toList_eq, ByteArray.toList_eq] at e; exact ByteArray.ext (Array.ext' e))

set_option maxRecDepth 100000 in
theorem spec_names (xs ys : List ByteArray) (w : World) (a b : Option Addr) (c d : Nat) (hx : strSl w a c xs) (hy : strSl w b d ys) : Calls Try.prog 50 #[.slice a xs.length c, .slice b ys.length d] w fun e w' => ∃ r : Bool, e = .returned (.bool r) ∧ (r = true ↔ xs = ys) ∧ Gw w w' := by
  have hl : xs.length ≤ 9223372036854775807 := Nat.le_trans hx.1 hx.2.1
  have hl2 : ys.length ≤ 9223372036854775807 := Nat.le_trans hy.1 hy.2.1
  have HX := Lib.hid hx.2.2
  have HY := Lib.hid hy.2.2
  obtain ⟨n, hn⟩ : ∃ n, n = xs.length := ⟨_, rfl⟩
  obtain ⟨m, hm⟩ : ∃ m, m = ys.length := ⟨_, rfl⟩
  rw [← hn, ← hm]
  rw [← hn] at hl
  rw [← hm] at hl2
  have HN := Lib.hid hn
  have HM := Lib.hid hm
  clear hx hy hn hm
  by_cases hnm : n = m
  rotate_left
  · have q1 : ((n : Int) != (m : Int)) = true := by simp; omega
    have F := Lib.hid (show ¬ xs = ys from fun e => hnm (by rw [HN.out, HM.out, e]))
    clear hnm
    go_enter Try.func50, Try.ntmps50
    go_wp2_with fail
    go_ret
    exact ⟨false, rfl, by simp [F.out], Gw.refl _⟩
  subst hnm
  have q1 : ((n : Int) != (n : Int)) = false := by simp
  go_enter Try.func50, Try.ntmps50
  go_wp2_with fail
  clear q1
  go_loopw [5] (fun i wr => ∃ j : Nat, j ≤ n ∧ i = .int .i64 j ∧ Gw w wr ∧ ∀ x (hx : x < xs.length) (hy : x < ys.length), x < j → xs[x] = ys[x]) (fun i _ => n - (intOf i).toNat)
  case atStart => exact ⟨0, by omega, rfl, Gw.refl _, fun x _ _ h => absurd h (by omega)⟩
  case round =>
    obtain ⟨j, hj, rfl, hg, hall⟩ := hrel
    have HALL := Lib.hid hall
    clear hall
    by_cases hlt : j < n
    · have hjx : j < xs.length := by have := HN.out; omega
      have hjy : j < ys.length := by have := HM.out; omega
      obtain ⟨b1, o1, rfl, r1⟩ := HX.out.resolve_left (fun e => by subst e; simp at hjx)
      obtain ⟨b2, o2, rfl, r2⟩ := HY.out.resolve_left (fun e => by subst e; simp at hjy)
      obtain ⟨c0, _⟩ := strRow_get (r1.grow sLen sGr hg) j hjx
      obtain ⟨d0, _⟩ := strRow_get (r2.grow sLen sGr hg) j hjy
      have r0 : (0 : Int) ≤ j := by omega
      have r3 : (j : Int) < n := by omega
      clear r1 r2
      by_cases he : xs[j] = ys[j]
      · have hd : (xs[j].toList != ys[j].toList) = false := by rw [he]; simp
        have hd2 : (xs[j].toList == ys[j].toList) = true := by rw [he]; simp
        have HE := Lib.hid he
        clear he
        go_wp2_with (go_quiet (fail))
        go_roundw
        case rel =>
          refine ⟨j + 1, by omega, by go_num, by first | exact hg | exact hg.drewN _, fun x hx hy hi => ?_⟩
          by_cases e : x = j
          · subst e; exact HE.out
          · exact HALL.out x hx hy (by omega)
        case measure => simp [intOf]; omega
      · have hd2 := toList_neS he
        have hd : (xs[j].toList != ys[j].toList) = true := by simpa using hd2
        have F := Lib.hid (show ¬ xs = ys from fun e => he (by subst e; rfl))
        clear he
        go_wp2_with (go_quiet (fail))
        go_ret
        exact ⟨false, rfl, by simp [F.out], by first | exact hg | exact hg.drewN _⟩
    · obtain rfl : j = n := by omega
      have F := Lib.hid (show xs = ys from List.ext_getElem (by rw [← HN.out, ← HM.out]) fun i h1 h2 => HALL.out i h1 h2 (by have := HN.out; omega))
      go_wp2_with fail
      go_ret
      exact ⟨true, rfl, by simp [F.out], hg⟩

set_option maxRecDepth 100000 in
theorem impl_equalS (xs ys : List ByteArray) (w : World) (a b : Option Addr) (c d : Nat) (hx : strSl w a c xs) (hy : strSl w b d ys) : Calls Try.prog 90 #[.slice a xs.length c, .slice b ys.length d] w fun e w' => ∃ r : Bool, e = .returned (.bool r) ∧ (r = true ↔ xs = ys) ∧ Gw w w' := by
  have hl : xs.length ≤ 9223372036854775807 := Nat.le_trans hx.1 hx.2.1
  have hl2 : ys.length ≤ 9223372036854775807 := Nat.le_trans hy.1 hy.2.1
  have HX := Lib.hid hx.2.2
  have HY := Lib.hid hy.2.2
  obtain ⟨n, hn⟩ : ∃ n, n = xs.length := ⟨_, rfl⟩
  obtain ⟨m, hm⟩ : ∃ m, m = ys.length := ⟨_, rfl⟩
  rw [← hn, ← hm]
  rw [← hn] at hl
  rw [← hm] at hl2
  have HN := Lib.hid hn
  have HM := Lib.hid hm
  clear hx hy hn hm
  by_cases hnm : n = m
  rotate_left
  · have q1 : ((n : Int) != (m : Int)) = true := by simp; omega
    have F := Lib.hid (show ¬ xs = ys from fun e => hnm (by rw [HN.out, HM.out, e]))
    clear hnm
    go_enter Try.func90, Try.ntmps90
    go_wp2_with fail
    go_ret
    exact ⟨false, rfl, by simp [F.out], Gw.refl _⟩
  subst hnm
  have q1 : ((n : Int) != (n : Int)) = false := by simp
  go_enter Try.func90, Try.ntmps90
  go_wp2_with fail
  clear q1
  go_loopw [13] (fun i wr => ∃ j : Nat, j ≤ n ∧ i = .int .i64 j ∧ Gw w wr ∧ ∀ x (hx : x < xs.length) (hy : x < ys.length), x < j → xs[x] = ys[x]) (fun i _ => n - (intOf i).toNat)
  case atStart => exact ⟨0, by omega, rfl, Gw.refl _, fun x _ _ h => absurd h (by omega)⟩
  case round =>
    obtain ⟨j, hj, rfl, hg, hall⟩ := hrel
    have HALL := Lib.hid hall
    clear hall
    by_cases hlt : j < n
    · have hjx : j < xs.length := by have := HN.out; omega
      have hjy : j < ys.length := by have := HM.out; omega
      obtain ⟨b1, o1, rfl, r1⟩ := HX.out.resolve_left (fun e => by subst e; simp at hjx)
      obtain ⟨b2, o2, rfl, r2⟩ := HY.out.resolve_left (fun e => by subst e; simp at hjy)
      obtain ⟨c0, _⟩ := strRow_get (r1.grow sLen sGr hg) j hjx
      obtain ⟨d0, _⟩ := strRow_get (r2.grow sLen sGr hg) j hjy
      have r0 : (0 : Int) ≤ j := by omega
      have r3 : (j : Int) < n := by omega
      clear r1 r2
      by_cases he : xs[j] = ys[j]
      · have hd : (xs[j].toList != ys[j].toList) = false := by rw [he]; simp
        have hd2 : (xs[j].toList == ys[j].toList) = true := by rw [he]; simp
        have HE := Lib.hid he
        clear he
        go_wp2_with (go_quiet (fail))
        go_roundw
        case rel =>
          refine ⟨j + 1, by omega, by go_num, by first | exact hg | exact hg.drewN _, fun x hx hy hi => ?_⟩
          by_cases e : x = j
          · subst e; exact HE.out
          · exact HALL.out x hx hy (by omega)
        case measure => simp [intOf]; omega
      · have hd2 := toList_neS he
        have hd : (xs[j].toList != ys[j].toList) = true := by simpa using hd2
        have F := Lib.hid (show ¬ xs = ys from fun e => he (by subst e; rfl))
        clear he
        go_wp2_with (go_quiet (fail))
        go_ret
        exact ⟨false, rfl, by simp [F.out], by first | exact hg | exact hg.drewN _⟩
    · obtain rfl : j = n := by omega
      have F := Lib.hid (show xs = ys from List.ext_getElem (by rw [← HN.out, ← HM.out]) fun i h1 h2 => HALL.out i h1 h2 (by have := HN.out; omega))
      go_wp2_with fail
      go_ret
      exact ⟨true, rfl, by simp [F.out], hg⟩

theorem tm_iff (x y : LM) : x.tm = y.tm ↔ x.k = y.k ∧ x.m = y.m ∧ x.n = y.n ∧ x.t.ty = y.t.ty ∧ x.ns = y.ns ∧ x.ks.length = y.ks.length ∧ ∀ i (hx : i < x.ks.length) (hy : i < y.ks.length), x.ks[i].tm = y.ks[i].tm := by
  rw [LM.tm_eq, LM.tm_eq y, Tm.mk.injEq]
  constructor
  · rintro ⟨h1, h2, h3, h4, h5, h6⟩
    exact ⟨h1, h2, h3, h4, h5, by simpa using congrArg List.length h6, fun i hx hy => by
      have := congrArg (fun l => l[i]?) h6
      simpa [List.getElem?_map, List.getElem?_eq_getElem hx, List.getElem?_eq_getElem hy] using this⟩
  · rintro ⟨h1, h2, h3, h4, h5, h6, h7⟩
    refine ⟨h1, h2, h3, h4, h5, List.ext_getElem (by simpa using h6) fun i hi hi' => ?_⟩
    simp only [List.length_map] at hi hi'
    simpa using h7 i hi hi'

def SameM (x y : LM) (w : World) (e : Ending) (w' : World) : Prop := ∃ r : Bool, e = .returned (.bool r) ∧ (r = true ↔ x.tm = y.tm) ∧ Gw w w'
theorem sameM_false {x y : LM} {w w' : World} (h : ¬ x.tm = y.tm) (hc : Gw w w') : SameM x y w (.returned (.bool false)) w' := ⟨false, rfl, by simp [h], hc⟩
theorem sameM_true {x y : LM} {w w' : World} (h : x.tm = y.tm) (hc : Gw w w') : SameM x y w (.returned (.bool true)) w' := ⟨true, rfl, by simp [h], hc⟩

def SsC (x : LM) : Prop := ∀ (y : LM) (w : World), x.Ok w → y.Ok w → Calls Try.prog 19 #[x.val, y.val] w (SameM x y w)

set_option maxRecDepth 100000 in
set_option maxHeartbeats 2000000 in
theorem ssT_of (x : LM) (ih : ∀ u ∈ x.ks, SsC u) : SsC x := by
  intro y w hx hy
  have hlx : x.ks.length ≤ 9223372036854775807 := Nat.le_trans hx.kids.1 hx.kids.2.1
  have hly : y.ks.length ≤ 9223372036854775807 := Nat.le_trans hy.kids.1 hy.kids.2.1
  have gA : Gw w ((w.alloc (.cells #[.int .i64 x.k, .int .i64 x.m, .string x.n, .int .i64 x.t.k, .string x.t.n, .slice x.t.a x.t.ks.length x.t.cap, .slice x.na x.ns.length x.nc, .slice x.a x.ks.length x.cap] 43)).alloc (.cells #[.int .i64 y.k, .int .i64 y.m, .string y.n, .int .i64 y.t.k, .string y.t.n, .slice y.t.a y.t.ks.length y.t.cap, .slice y.na y.ns.length y.nc, .slice y.a y.ks.length y.cap] 43)) := ((Gw.refl w).alloc _).alloc _
  have b1 := (BoxM.new w x 43).grow ((Gw.refl _).alloc (.cells #[.int .i64 y.k, .int .i64 y.m, .string y.n, .int .i64 y.t.k, .string y.t.n, .slice y.t.a y.t.ks.length y.t.cap, .slice y.na y.ns.length y.nc, .slice y.a y.ks.length y.cap] 43))
  have b2 := BoxM.new (w.alloc (.cells #[.int .i64 x.k, .int .i64 x.m, .string x.n, .int .i64 x.t.k, .string x.t.n, .slice x.t.a x.t.ks.length x.t.cap, .slice x.na x.ns.length x.nc, .slice x.a x.ks.length x.cap] 43)) y 43
  rw [World.size_alloc] at b2
  have OX := Lib.hid (hx.grow gA)
  have OY := Lib.hid (hy.grow gA)
  have GA := Lib.hid gA
  clear hx hy gA
  go_enter Try.func19, Try.ntmps19
  go_upto_region 1 with (fail)
  generalize (w.alloc (.cells #[.int .i64 x.k, .int .i64 x.m, .string x.n, .int .i64 x.t.k, .string x.t.n, .slice x.t.a x.t.ks.length x.t.cap, .slice x.na x.ns.length x.nc, .slice x.a x.ks.length x.cap] 43)).alloc (.cells #[.int .i64 y.k, .int .i64 y.m, .string y.n, .int .i64 y.t.k, .string y.t.n, .slice y.t.a y.t.ks.length y.t.cap, .slice y.na y.ns.length y.nc, .slice y.a y.ks.length y.cap] 43) = W1 at *
  obtain ⟨p0, p1, p2, p3, p4, p5, p6, p7⟩ := b1.c
  obtain ⟨q0, q1, q2, q3, q4, q5, q6, q7⟩ := b2.c
  by_cases h1 : x.k = y.k
  rotate_left
  · have d1 : (x.k != y.k) = true := by simpa using h1
    have F := Lib.hid (show ¬ x.tm = y.tm from fun e => h1 ((tm_iff x y).1 e).1)
    clear h1
    go_wp2_with fail
    go_ret
    exact sameM_false F.out GA.out
  have d1 : (x.k != y.k) = false := by simpa using h1
  have H1 := Lib.hid h1
  clear h1
  by_cases h2 : x.m = y.m
  rotate_left
  · have d2 : (x.m != y.m) = true := by simpa using h2
    have F := Lib.hid (show ¬ x.tm = y.tm from fun e => h2 ((tm_iff x y).1 e).2.1)
    clear h2
    go_wp2_with fail
    go_ret
    exact sameM_false F.out GA.out
  have d2 : (x.m != y.m) = false := by simpa using h2
  have H2 := Lib.hid h2
  clear h2
  by_cases h3 : x.n = y.n
  rotate_left
  · have d3b := toList_neS h3
    have d3 : (x.n.toList != y.n.toList) = true := by simpa using d3b
    have F := Lib.hid (show ¬ x.tm = y.tm from fun e => h3 ((tm_iff x y).1 e).2.2.1)
    clear h3
    go_wp2_with fail
    go_ret
    exact sameM_false F.out GA.out
  have d3 : (x.n.toList != y.n.toList) = false := by rw [h3]; simp
  have d3b : (x.n.toList == y.n.toList) = true := by rw [h3]; simp
  have H3 := Lib.hid h3
  clear h3
  go_wp2_with fail
  refine (spec_same x.t y.t _ OX.out.ty OY.out.ty).mono ?_
  rintro e w2 ⟨r, rfl, hr, g2⟩
  replace OX := Lib.hid (OX.out.grow g2)
  replace OY := Lib.hid (OY.out.grow g2)
  replace b1 := b1.grow g2
  replace b2 := b2.grow g2
  replace GA := Lib.hid (GA.out.trans g2)
  clear p0 p1 p2 p3 p4 p5 p6 p7 q0 q1 q2 q3 q4 q5 q6 q7 g2
  cases r with
  | false =>
    have F := Lib.hid (show ¬ x.tm = y.tm from fun e => by have := hr.2 ((tm_iff x y).1 e).2.2.2.1; cases this)
    clear hr
    go_wp2_with fail
    go_ret
    exact sameM_false F.out GA.out
  | true =>
  have H4 := Lib.hid (hr.1 rfl)
  clear hr
  obtain ⟨p0, p1, p2, p3, p4, p5, p6, p7⟩ := b1.c
  obtain ⟨q0, q1, q2, q3, q4, q5, q6, q7⟩ := b2.c
  go_wp2_with fail
  refine (spec_names x.ns y.ns _ x.na y.na x.nc y.nc OX.out.nms OY.out.nms).mono ?_
  rintro e w3 ⟨r, rfl, hr, g2⟩
  replace OX := Lib.hid (OX.out.grow g2)
  replace OY := Lib.hid (OY.out.grow g2)
  replace b1 := b1.grow g2
  replace b2 := b2.grow g2
  replace GA := Lib.hid (GA.out.trans g2)
  clear p0 p1 p2 p3 p4 p5 p6 p7 q0 q1 q2 q3 q4 q5 q6 q7 g2
  cases r with
  | false =>
    have F := Lib.hid (show ¬ x.tm = y.tm from fun e => by have := hr.2 ((tm_iff x y).1 e).2.2.2.2.1; cases this)
    clear hr
    go_wp2_with fail
    go_ret
    exact sameM_false F.out GA.out
  | true =>
  have H5 := Lib.hid (hr.1 rfl)
  clear hr
  obtain ⟨p0, p1, p2, p3, p4, p5, p6, p7⟩ := b1.c
  obtain ⟨q0, q1, q2, q3, q4, q5, q6, q7⟩ := b2.c
  obtain ⟨n, hn⟩ : ∃ n, n = x.ks.length := ⟨_, rfl⟩
  obtain ⟨m, hm⟩ : ∃ m, m = y.ks.length := ⟨_, rfl⟩
  rw [← hn] at p7 hlx
  rw [← hm] at q7 hly
  have HN := Lib.hid hn
  have HM := Lib.hid hm
  clear hn hm
  by_cases hnm : n = m
  rotate_left
  · have z1 : ((n : Int) != (m : Int)) = true := by simp; omega
    have F := Lib.hid (show ¬ x.tm = y.tm from fun e => hnm (by rw [HN.out, HM.out]; exact ((tm_iff x y).1 e).2.2.2.2.2.1))
    clear hnm
    go_wp2_with fail
    go_ret
    exact sameM_false F.out GA.out
  subst hnm
  have z1 : ((n : Int) != (n : Int)) = false := by simp
  have B1 := Lib.hid b1
  have B2 := Lib.hid b2
  go_wp2_with fail
  clear p0 p1 p2 p3 p4 p5 p6 p7 q0 q1 q2 q3 q4 q5 q6 q7 z1 b1 b2
  go_loopw [5] (fun i wr => ∃ j : Nat, j ≤ n ∧ i = .int .i64 j ∧ Gw w3 wr ∧ ∀ i (hx : i < x.ks.length) (hy : i < y.ks.length), i < j → x.ks[i].tm = y.ks[i].tm) (fun i _ => n - (intOf i).toNat)
  case atStart => exact ⟨0, by omega, rfl, Gw.refl _, fun i _ _ h => absurd h (by omega)⟩
  case round =>
    obtain ⟨j, hj, rfl, hg, hall⟩ := hrel
    have HALL := Lib.hid hall
    have HG := Lib.hid hg
    clear hall
    obtain ⟨p0, p1, p2, p3, p4, p5, p6, p7⟩ := (B1.out.grow hg).c
    obtain ⟨q0, q1, q2, q3, q4, q5, q6, q7⟩ := (B2.out.grow hg).c
    rw [← HN.out] at p7
    rw [← HM.out] at q7
    by_cases hlt : j < n
    · have hjx : j < x.ks.length := by have := HN.out; omega
      have hjy : j < y.ks.length := by have := HM.out; omega
      obtain ⟨k1, o1, e1, r1⟩ := (OX.out.grow hg).kids.2.2.resolve_left (fun e => by rw [e] at hjx; simp at hjx)
      obtain ⟨k2, o2, e2, r2⟩ := (OY.out.grow hg).kids.2.2.resolve_left (fun e => by rw [e] at hjy; simp at hjy)
      obtain ⟨c0, c1, c2, c3, c4, c5, c6, c7, ok1⟩ := tmRow_get r1 j hjx
      obtain ⟨d0, d1, d2, d3, d4, d5, d6, d7, ok2⟩ := tmRow_get r2 j hjy
      rw [e1] at p7
      rw [e2] at q7
      have s0 : (0 : Int) ≤ j := by omega
      have s1 : (j : Int) < n := by omega
      have K1 := Lib.hid ok1.drew
      have K2 := Lib.hid ok2.drew
      clear e1 e2 r1 r2 ok1 ok2 hg
      go_wp2_with fail
      go_still_tail 10, (by kernel_rfl)
      change wpList _ _ _ _ _ wr.drew
      clear p0 p1 p2 p3 p4 p5 p6 p7 q0 q1 q2 q3 q4 q5 q6 q7 c0 c1 c2 c3 c4 c5 c6 c7 d0 d1 d2 d3 d4 d5 d6 d7
      have HGD := Lib.hid (show Gw w3 wr.drew from HG.out.drew)
      clear HG
      generalize wr.drew = w4 at *
      go_wp2_with fail
      refine (ih x.ks[j] (List.getElem_mem hjx) y.ks[j] w4 K1.out K2.out).mono ?_
      rintro e w5 ⟨r, rfl, hr, g5⟩
      have HG5 := Lib.hid (HGD.out.trans g5)
      clear g5
      cases r with
      | false =>
        have F := Lib.hid (show ¬ x.tm = y.tm from fun e => by have := hr.2 (((tm_iff x y).1 e).2.2.2.2.2.2 j hjx hjy); cases this)
        clear hr
        go_wp2_with fail
        go_ret
        exact sameM_false F.out (GA.out.trans HG5.out)
      | true =>
        have HE := Lib.hid (hr.1 rfl)
        clear hr
        go_wp2_with fail
        go_roundw
        case rel =>
          refine ⟨j + 1, by omega, by go_num, HG5.out, fun i hx hy hi => ?_⟩
          by_cases e : i = j
          · subst e; exact HE.out
          · exact HALL.out i hx hy (by omega)
        case measure => simp [intOf]; omega
    · obtain rfl : j = n := by omega
      have F := Lib.hid (show x.tm = y.tm from (tm_iff x y).2 ⟨H1.out, H2.out, H3.out, H4.out, H5.out, by rw [← HN.out, ← HM.out], fun i hx hy => HALL.out i hx hy (by have := HN.out; omega)⟩)
      go_wp2_with fail
      go_ret
      exact sameM_true F.out (GA.out.trans HG.out)

theorem spec_sameT (x : LM) : SsC x := by
  refine LM.ind (P := SsC) (fun k m n t na nc ns a cap ks ih => ?_) x
  exact ssT_of (.mk k m n t na nc ns a cap ks) ih

end Go.Proofs.Ytbbldkhlclfmkaa.Con
