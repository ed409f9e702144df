/-
  Contracts of the model's l00Same and SameCore. Condition: both core terms lie in memory.
-/
import Derived.Test.YtkpbiifikkbaeaaKcCore
import Derived.Test.YtkpbiifikkbaeaaCoLw
namespace Go.Proofs.Ytkpbiifikkbaeaa.Con
open Go.RowKit
set_option linter.unusedVariables false

def SameN (xs ys : List Int) (w : World) (e : Ending) (w' : World) : Prop := ∃ r : Bool, e = .returned (.bool r) ∧ (r = true ↔ xs = ys) ∧ Gw w w'
set_option maxRecDepth 100000 in
theorem spec_sameN (xs ys : List Int) (w : World) (a b : Option Addr) (c d : Nat) (hx : numSl w a c xs) (hy : numSl w b d ys) : Calls Try.prog 32 #[.slice a xs.length c, .slice b ys.length d] w (SameN xs ys w) := by
  have hl : xs.length ≤ 9223372036854775807 := Nat.le_trans hx.1 hx.2.1
  have hl2 : ys.length ≤ 9223372036854775807 := Nat.le_trans hy.1 hy.2.1
  have HX := Lib.hid hx.2.2
  have HY := Lib.hid hy.2.2
  obtain ⟨n, hn⟩ : ∃ n, n = xs.length := ⟨_, rfl⟩
  obtain ⟨m, hm⟩ : ∃ m, m = ys.length := ⟨_, rfl⟩
  rw [← hn, ← hm]
  rw [← hn] at hl
  rw [← hm] at hl2
  have HN := Lib.hid hn
  have HM := Lib.hid hm
  clear hx hy hn hm
  by_cases hnm : n = m
  rotate_left
  · have q1 : ((n : Int) != (m : Int)) = true := by simp; omega
    have F := Lib.hid (show ¬ xs = ys from fun e => hnm (by rw [HN.out, HM.out, e]))
    clear hnm
    go_enter Try.func32, Try.ntmps32
    go_wp2_with fail
    go_ret
    exact ⟨false, rfl, by simp [F.out], Gw.refl _⟩
  subst hnm
  have q1 : ((n : Int) != (n : Int)) = false := by simp
  go_enter Try.func32, Try.ntmps32
  go_wp2_with fail
  clear q1
  go_loopw [5] (fun i wr => ∃ j : Nat, j ≤ n ∧ i = .int .i64 j ∧ Gw w wr ∧ ∀ x (hx : x < xs.length) (hy : x < ys.length), x < j → xs[x] = ys[x]) (fun i _ => n - (intOf i).toNat)
  case atStart => exact ⟨0, by omega, rfl, Gw.refl _, fun x _ _ h => absurd h (by omega)⟩
  case round =>
    obtain ⟨j, hj, rfl, hg, hall⟩ := hrel
    have HALL := Lib.hid hall
    clear hall
    by_cases hlt : j < n
    · have hjx : j < xs.length := by have := HN.out; omega
      have hjy : j < ys.length := by have := HM.out; omega
      obtain ⟨b1, o1, rfl, r1⟩ := HX.out.resolve_left (fun e => by subst e; simp at hjx)
      obtain ⟨b2, o2, rfl, r2⟩ := HY.out.resolve_left (fun e => by subst e; simp at hjy)
      obtain ⟨c0, _⟩ := numRow_get (r1.grow nLen nGr hg) j hjx
      obtain ⟨d0, _⟩ := numRow_get (r2.grow nLen nGr hg) j hjy
      have r0 : (0 : Int) ≤ j := by omega
      have r3 : (j : Int) < n := by omega
      clear r1 r2
      by_cases he : xs[j] = ys[j]
      · have hd : (xs[j] != ys[j]) = false := by rw [he]; simp
        have HE := Lib.hid he
        clear he
        go_wp2_with (go_quiet (fail))
        go_roundw
        case rel =>
          refine ⟨j + 1, by omega, by go_num, by first | exact hg | exact hg.drewN _, fun x hx hy hi => ?_⟩
          by_cases e : x = j
          · subst e; exact HE.out
          · exact HALL.out x hx hy (by omega)
        case measure => simp [intOf]; omega
      · have hd : (xs[j] != ys[j]) = true := by simpa using he
        have F := Lib.hid (show ¬ xs = ys from fun e => he (by subst e; rfl))
        clear he
        go_wp2_with (go_quiet (fail))
        go_ret
        exact ⟨false, rfl, by simp [F.out], by first | exact hg | exact hg.drewN _⟩
    · obtain rfl : j = n := by omega
      have F := Lib.hid (show xs = ys from List.ext_getElem (by rw [← HN.out, ← HM.out]) fun i h1 h2 => HALL.out i h1 h2 (by have := HN.out; omega))
      go_wp2_with fail
      go_ret
      exact ⟨true, rfl, by simp [F.out], hg⟩

theorem spec_sameN_yes (xs ys : List Int) (w : World) (a b : Option Addr) (c d : Nat) (hx : numSl w a c xs) (hy : numSl w b d ys) (h : xs = ys) : Calls Try.prog 32 #[.slice a xs.length c, .slice b ys.length d] w fun e w' => e = .returned (.bool true) ∧ Gw w w' :=
  (spec_sameN xs ys w a b c d hx hy).mono fun e w' ⟨r, he, hr, g⟩ => by obtain rfl : r = true := hr.2 h; exact ⟨he, g⟩
theorem spec_sameN_no (xs ys : List Int) (w : World) (a b : Option Addr) (c d : Nat) (hx : numSl w a c xs) (hy : numSl w b d ys) (h : ¬ xs = ys) : Calls Try.prog 32 #[.slice a xs.length c, .slice b ys.length d] w fun e w' => e = .returned (.bool false) ∧ Gw w w' :=
  (spec_sameN xs ys w a b c d hx hy).mono fun e w' ⟨r, he, hr, g⟩ => by obtain rfl : r = false := (by cases r with | false => rfl | true => exact absurd (hr.1 rfl) h); exact ⟨he, g⟩

def SameK (x y : LK) (w : World) (e : Ending) (w' : World) : Prop := ∃ r : Bool, e = .returned (.bool r) ∧ (r = true ↔ x.co = y.co) ∧ Gw w w'
theorem sameK_false {x y : LK} {w w' : World} (h : ¬ x.co = y.co) (hc : Gw w w') : SameK x y w (.returned (.bool false)) w' := ⟨false, rfl, by simp [h], hc⟩
theorem sameK_true {x y : LK} {w w' : World} (h : x.co = y.co) (hc : Gw w w') : SameK x y w (.returned (.bool true)) w' := ⟨true, rfl, by simp [h], hc⟩
def SkC (x : LK) : Prop := ∀ (y : LK) (w : World) (b o b' o' : Nat), coAt w b o x → coAt w b' o' y → Calls Try.prog 48 #[.pointer (some ⟨b, o, none⟩), .pointer (some ⟨b', o', none⟩)] w (SameK x y w)

set_option maxRecDepth 100000 in
set_option maxHeartbeats 2000000 in
theorem sk_of (x : LK) (ih : ∀ u ∈ x.ks, SkC u) : SkC x := by
  intro y w b o b' o' hx hy
  have hlx := hx.2.kl
  have hly := hy.2.kl
  have AX := Lib.hid hx
  have AY := Lib.hid hy
  obtain ⟨p0, p1, p2, p3⟩ := hx.c
  obtain ⟨q0, q1, q2, q3⟩ := hy.c
  have lx := hx.lt
  have ly := hy.lt
  clear hx hy
  go_enter Try.func48, Try.ntmps48
  go_upto_region 1 with (fail)
  by_cases h1 : x.k = y.k
  rotate_left
  · have d1 : (x.k != y.k) = true := by simpa using h1
    have F := Lib.hid (show ¬ x.co = y.co from fun e => h1 ((KCore.same_iff x y).1 e).1.1)
    clear h1
    go_wp2_with (go_quiet (fail))
    go_ret
    exact sameK_false F.out (by first | exact (Gw.refl w).drewN _ | exact Gw.refl w)
  have d1 : (x.k != y.k) = false := by simpa using h1
  have H1 := Lib.hid h1
  clear h1
  by_cases h2 : x.v = y.v
  rotate_left
  · have d2 : (x.v != y.v) = true := by simpa using h2
    have F := Lib.hid (show ¬ x.co = y.co from fun e => h2 ((KCore.same_iff x y).1 e).1.2.1)
    clear h2
    go_wp2_with (go_quiet (fail))
    go_ret
    exact sameK_false F.out (by first | exact (Gw.refl w).drewN _ | exact Gw.refl w)
  have d2 : (x.v != y.v) = false := by simpa using h2
  have H2 := Lib.hid h2
  clear h2
  by_cases h3 : x.ds = y.ds
  rotate_left
  · have F := Lib.hid (show ¬ x.co = y.co from fun e => h3 ((KCore.same_iff x y).1 e).1.2.2)
    have NO := Lib.hid (fun (w : World) hx hy => spec_sameN_no x.ds y.ds w x.da y.da x.dc y.dc hx hy h3)
    clear h3
    refine wp_region_held_drew (S := fun W => W.cell? ⟨b, o, none⟩ = some (.int .i64 x.k) ∧ W.cell? ⟨b, o + 1, none⟩ = some (.int .i64 x.v) ∧ W.cell? ⟨b, o + 2, none⟩ = some (.slice x.da x.ds.length x.dc) ∧ W.cell? ⟨b, o + 3, none⟩ = some (.slice x.a x.ks.length x.cap) ∧ W.cell? ⟨b', o', none⟩ = some (.int .i64 y.k) ∧ W.cell? ⟨b', o' + 1, none⟩ = some (.int .i64 y.v) ∧ W.cell? ⟨b', o' + 2, none⟩ = some (.slice y.da y.ds.length y.dc) ∧ W.cell? ⟨b', o' + 3, none⟩ = some (.slice y.a y.ks.length y.cap)) (by kernel_rfl) ?_ (fun hHeld => ?_)
    · exact ⟨p0, p1, p2, p3, q0, q1, q2, q3⟩
    refine wpAnyH_take (i := 0) (oi := { dst := some 6, op := _, type := _, pos := _, after := _, guard := _ }) (v := .pointer (some ⟨b, o, none⟩)) rfl (by kernel_rfl) (by kernel_rfl) (by kernel_rfl) (fun _ _ _ h => h) (Or.inl ⟨by rfl, ?_⟩) (by assumption) ?_
    · intro w hSw; obtain ⟨p0, p1, p2, p3, q0, q1, q2, q3⟩ := hSw; go_simp
    try simp only [Act.put, List.setIfInBounds_toArray, List.set_cons_zero, List.set_cons_succ]
    refine wpAnyH_take (i := 1) (oi := { dst := some 7, op := _, type := _, pos := _, after := _, guard := _ }) (v := .pointer (some ⟨b, o, none⟩)) rfl (by kernel_rfl) (by kernel_rfl) (by kernel_rfl) (fun _ _ _ h => h) (Or.inl ⟨by rfl, ?_⟩) (by assumption) ?_
    · intro w hSw; obtain ⟨p0, p1, p2, p3, q0, q1, q2, q3⟩ := hSw; go_simp
    try simp only [Act.put, List.setIfInBounds_toArray, List.set_cons_zero, List.set_cons_succ]
    refine wpAnyH_take (i := 2) (oi := { dst := some 8, op := _, type := _, pos := _, after := _, guard := _ }) (v := .pointer (some ⟨b, o, none⟩)) rfl (by kernel_rfl) (by kernel_rfl) (by kernel_rfl) (fun _ _ _ h => h) (Or.inl ⟨by rfl, ?_⟩) (by assumption) ?_
    · intro w hSw; obtain ⟨p0, p1, p2, p3, q0, q1, q2, q3⟩ := hSw; go_simp
    try simp only [Act.put, List.setIfInBounds_toArray, List.set_cons_zero, List.set_cons_succ]
    refine wpAnyH_take (i := 3) (oi := { dst := some 9, op := _, type := _, pos := _, after := _, guard := _ }) (v := .int .i64 x.k) rfl (by kernel_rfl) (by kernel_rfl) (by kernel_rfl) (fun _ _ _ h => h) (Or.inl ⟨by rfl, ?_⟩) (by assumption) ?_
    · intro w hSw; obtain ⟨p0, p1, p2, p3, q0, q1, q2, q3⟩ := hSw; go_simp
    try simp only [Act.put, List.setIfInBounds_toArray, List.set_cons_zero, List.set_cons_succ]
    refine wpAnyH_take (i := 4) (oi := { dst := some 10, op := _, type := _, pos := _, after := _, guard := _ }) (v := .pointer (some ⟨b', o', none⟩)) rfl (by kernel_rfl) (by kernel_rfl) (by kernel_rfl) (fun _ _ _ h => h) (Or.inl ⟨by rfl, ?_⟩) (by assumption) ?_
    · intro w hSw; obtain ⟨p0, p1, p2, p3, q0, q1, q2, q3⟩ := hSw; go_simp
    try simp only [Act.put, List.setIfInBounds_toArray, List.set_cons_zero, List.set_cons_succ]
    refine wpAnyH_take (i := 5) (oi := { dst := some 11, op := _, type := _, pos := _, after := _, guard := _ }) (v := .pointer (some ⟨b', o', none⟩)) rfl (by kernel_rfl) (by kernel_rfl) (by kernel_rfl) (fun _ _ _ h => h) (Or.inl ⟨by rfl, ?_⟩) (by assumption) ?_
    · intro w hSw; obtain ⟨p0, p1, p2, p3, q0, q1, q2, q3⟩ := hSw; go_simp
    try simp only [Act.put, List.setIfInBounds_toArray, List.set_cons_zero, List.set_cons_succ]
    refine wpAnyH_take (i := 6) (oi := { dst := some 12, op := _, type := _, pos := _, after := _, guard := _ }) (v := .pointer (some ⟨b', o', none⟩)) rfl (by kernel_rfl) (by kernel_rfl) (by kernel_rfl) (fun _ _ _ h => h) (Or.inl ⟨by rfl, ?_⟩) (by assumption) ?_
    · intro w hSw; obtain ⟨p0, p1, p2, p3, q0, q1, q2, q3⟩ := hSw; go_simp
    try simp only [Act.put, List.setIfInBounds_toArray, List.set_cons_zero, List.set_cons_succ]
    refine wpAnyH_take (i := 7) (oi := { dst := some 13, op := _, type := _, pos := _, after := _, guard := _ }) (v := .int .i64 y.k) rfl (by kernel_rfl) (by kernel_rfl) (by kernel_rfl) (fun _ _ _ h => h) (Or.inl ⟨by rfl, ?_⟩) (by assumption) ?_
    · intro w hSw; obtain ⟨p0, p1, p2, p3, q0, q1, q2, q3⟩ := hSw; go_simp
    try simp only [Act.put, List.setIfInBounds_toArray, List.set_cons_zero, List.set_cons_succ]
    refine wpAnyH_take (i := 8) (oi := { dst := some 14, op := _, type := _, pos := _, after := _, guard := _ }) (v := .bool false) rfl (by kernel_rfl) (by kernel_rfl) (by kernel_rfl) (fun _ _ _ h => h) (Or.inl ⟨by rfl, ?_⟩) (by assumption) ?_
    · intro w hSw; obtain ⟨p0, p1, p2, p3, q0, q1, q2, q3⟩ := hSw; go_simp
    try simp only [Act.put, List.setIfInBounds_toArray, List.set_cons_zero, List.set_cons_succ]
    refine wpAnyH_take (i := 9) (oi := { dst := some 15, op := _, type := _, pos := _, after := _, guard := _ }) (v := .bool false) rfl (by kernel_rfl) (by kernel_rfl) (by kernel_rfl) (fun _ _ _ h => h) (Or.inl ⟨by rfl, ?_⟩) (by assumption) ?_
    · intro w hSw; obtain ⟨p0, p1, p2, p3, q0, q1, q2, q3⟩ := hSw; go_simp
    try simp only [Act.put, List.setIfInBounds_toArray, List.set_cons_zero, List.set_cons_succ]
    refine wpAnyH_take (i := 10) (oi := { dst := some 16, op := _, type := _, pos := _, after := _, guard := _ }) (v := .pointer (some ⟨b, o, none⟩)) rfl (by kernel_rfl) (by kernel_rfl) (by kernel_rfl) (fun _ _ _ h => h) (Or.inl ⟨by rfl, ?_⟩) (by assumption) ?_
    · intro w hSw; obtain ⟨p0, p1, p2, p3, q0, q1, q2, q3⟩ := hSw; go_simp
    try simp only [Act.put, List.setIfInBounds_toArray, List.set_cons_zero, List.set_cons_succ]
    refine wpAnyH_take (i := 11) (oi := { dst := some 17, op := _, type := _, pos := _, after := _, guard := _ }) (v := .pointer (some ⟨b, o, none⟩)) rfl (by kernel_rfl) (by kernel_rfl) (by kernel_rfl) (fun _ _ _ h => h) (Or.inl ⟨by rfl, ?_⟩) (by assumption) ?_
    · intro w hSw; obtain ⟨p0, p1, p2, p3, q0, q1, q2, q3⟩ := hSw; go_simp
    try simp only [Act.put, List.setIfInBounds_toArray, List.set_cons_zero, List.set_cons_succ]
    refine wpAnyH_take (i := 12) (oi := { dst := some 18, op := _, type := _, pos := _, after := _, guard := _ }) (v := .pointer (some ⟨b, o + 1, none⟩)) rfl (by kernel_rfl) (by kernel_rfl) (by kernel_rfl) (fun _ _ _ h => h) (Or.inl ⟨by rfl, ?_⟩) (by assumption) ?_
    · intro w hSw; obtain ⟨p0, p1, p2, p3, q0, q1, q2, q3⟩ := hSw; go_simp
    try simp only [Act.put, List.setIfInBounds_toArray, List.set_cons_zero, List.set_cons_succ]
    refine wpAnyH_take (i := 13) (oi := { dst := some 19, op := _, type := _, pos := _, after := _, guard := _ }) (v := .int .i64 x.v) rfl (by kernel_rfl) (by kernel_rfl) (by kernel_rfl) (fun _ _ _ h => h) (Or.inl ⟨by rfl, ?_⟩) (by assumption) ?_
    · intro w hSw; obtain ⟨p0, p1, p2, p3, q0, q1, q2, q3⟩ := hSw; go_simp
    try simp only [Act.put, List.setIfInBounds_toArray, List.set_cons_zero, List.set_cons_succ]
    refine wpAnyH_take (i := 14) (oi := { dst := some 20, op := _, type := _, pos := _, after := _, guard := _ }) (v := .pointer (some ⟨b', o', none⟩)) rfl (by kernel_rfl) (by kernel_rfl) (by kernel_rfl) (fun _ _ _ h => h) (Or.inl ⟨by rfl, ?_⟩) (by assumption) ?_
    · intro w hSw; obtain ⟨p0, p1, p2, p3, q0, q1, q2, q3⟩ := hSw; go_simp
    try simp only [Act.put, List.setIfInBounds_toArray, List.set_cons_zero, List.set_cons_succ]
    refine wpAnyH_take (i := 15) (oi := { dst := some 21, op := _, type := _, pos := _, after := _, guard := _ }) (v := .pointer (some ⟨b', o', none⟩)) rfl (by kernel_rfl) (by kernel_rfl) (by kernel_rfl) (fun _ _ _ h => h) (Or.inl ⟨by rfl, ?_⟩) (by assumption) ?_
    · intro w hSw; obtain ⟨p0, p1, p2, p3, q0, q1, q2, q3⟩ := hSw; go_simp
    try simp only [Act.put, List.setIfInBounds_toArray, List.set_cons_zero, List.set_cons_succ]
    refine wpAnyH_take (i := 16) (oi := { dst := some 22, op := _, type := _, pos := _, after := _, guard := _ }) (v := .pointer (some ⟨b', o' + 1, none⟩)) rfl (by kernel_rfl) (by kernel_rfl) (by kernel_rfl) (fun _ _ _ h => h) (Or.inl ⟨by rfl, ?_⟩) (by assumption) ?_
    · intro w hSw; obtain ⟨p0, p1, p2, p3, q0, q1, q2, q3⟩ := hSw; go_simp
    try simp only [Act.put, List.setIfInBounds_toArray, List.set_cons_zero, List.set_cons_succ]
    refine wpAnyH_take (i := 17) (oi := { dst := some 23, op := _, type := _, pos := _, after := _, guard := _ }) (v := .int .i64 y.v) rfl (by kernel_rfl) (by kernel_rfl) (by kernel_rfl) (fun _ _ _ h => h) (Or.inl ⟨by rfl, ?_⟩) (by assumption) ?_
    · intro w hSw; obtain ⟨p0, p1, p2, p3, q0, q1, q2, q3⟩ := hSw; go_simp
    try simp only [Act.put, List.setIfInBounds_toArray, List.set_cons_zero, List.set_cons_succ]
    refine wpAnyH_take (i := 18) (oi := { dst := some 24, op := _, type := _, pos := _, after := _, guard := _ }) (v := .bool false) rfl (by kernel_rfl) (by kernel_rfl) (by kernel_rfl) (fun _ _ _ h => h) (Or.inl ⟨by rfl, ?_⟩) (by assumption) ?_
    · intro w hSw; obtain ⟨p0, p1, p2, p3, q0, q1, q2, q3⟩ := hSw; go_simp
    try simp only [Act.put, List.setIfInBounds_toArray, List.set_cons_zero, List.set_cons_succ]
    refine wpAnyH_take (i := 19) (oi := { dst := some 25, op := _, type := _, pos := _, after := _, guard := _ }) (v := .bool false) rfl (by kernel_rfl) (by kernel_rfl) (by kernel_rfl) (fun _ _ _ h => h) (Or.inl ⟨by rfl, ?_⟩) (by assumption) ?_
    · intro w hSw; obtain ⟨p0, p1, p2, p3, q0, q1, q2, q3⟩ := hSw; go_simp
    try simp only [Act.put, List.setIfInBounds_toArray, List.set_cons_zero, List.set_cons_succ]
    refine wpAnyH_take (i := 20) (oi := { dst := some 26, op := _, type := _, pos := _, after := _, guard := _ }) (v := .bool false) rfl (by kernel_rfl) (by kernel_rfl) (by kernel_rfl) (fun _ _ _ h => h) (Or.inl ⟨by rfl, ?_⟩) (by assumption) ?_
    · intro w hSw; obtain ⟨p0, p1, p2, p3, q0, q1, q2, q3⟩ := hSw; go_simp
    try simp only [Act.put, List.setIfInBounds_toArray, List.set_cons_zero, List.set_cons_succ]
    refine wpAnyH_take (i := 21) (oi := { dst := some 27, op := _, type := _, pos := _, after := _, guard := _ }) (v := .pointer (some ⟨b, o, none⟩)) rfl (by kernel_rfl) (by kernel_rfl) (by kernel_rfl) (fun _ _ _ h => h) (Or.inl ⟨by rfl, ?_⟩) (by assumption) ?_
    · intro w hSw; obtain ⟨p0, p1, p2, p3, q0, q1, q2, q3⟩ := hSw; go_simp
    try simp only [Act.put, List.setIfInBounds_toArray, List.set_cons_zero, List.set_cons_succ]
    refine wpAnyH_take (i := 22) (oi := { dst := some 28, op := _, type := _, pos := _, after := _, guard := _ }) (v := .pointer (some ⟨b, o, none⟩)) rfl (by kernel_rfl) (by kernel_rfl) (by kernel_rfl) (fun _ _ _ h => h) (Or.inl ⟨by rfl, ?_⟩) (by assumption) ?_
    · intro w hSw; obtain ⟨p0, p1, p2, p3, q0, q1, q2, q3⟩ := hSw; go_simp
    try simp only [Act.put, List.setIfInBounds_toArray, List.set_cons_zero, List.set_cons_succ]
    refine wpAnyH_take (i := 23) (oi := { dst := some 29, op := _, type := _, pos := _, after := _, guard := _ }) (v := .pointer (some ⟨b, o + 2, none⟩)) rfl (by kernel_rfl) (by kernel_rfl) (by kernel_rfl) (fun _ _ _ h => h) (Or.inl ⟨by rfl, ?_⟩) (by assumption) ?_
    · intro w hSw; obtain ⟨p0, p1, p2, p3, q0, q1, q2, q3⟩ := hSw; go_simp
    try simp only [Act.put, List.setIfInBounds_toArray, List.set_cons_zero, List.set_cons_succ]
    refine wpAnyH_take (i := 24) (oi := { dst := some 30, op := _, type := _, pos := _, after := _, guard := _ }) (v := .slice x.da x.ds.length x.dc) rfl (by kernel_rfl) (by kernel_rfl) (by kernel_rfl) (fun _ _ _ h => h) (Or.inl ⟨by rfl, ?_⟩) (by assumption) ?_
    · intro w hSw; obtain ⟨p0, p1, p2, p3, q0, q1, q2, q3⟩ := hSw; go_simp
    try simp only [Act.put, List.setIfInBounds_toArray, List.set_cons_zero, List.set_cons_succ]
    refine wpAnyH_take (i := 25) (oi := { dst := some 31, op := _, type := _, pos := _, after := _, guard := _ }) (v := .pointer (some ⟨b', o', none⟩)) rfl (by kernel_rfl) (by kernel_rfl) (by kernel_rfl) (fun _ _ _ h => h) (Or.inl ⟨by rfl, ?_⟩) (by assumption) ?_
    · intro w hSw; obtain ⟨p0, p1, p2, p3, q0, q1, q2, q3⟩ := hSw; go_simp
    try simp only [Act.put, List.setIfInBounds_toArray, List.set_cons_zero, List.set_cons_succ]
    refine wpAnyH_take (i := 26) (oi := { dst := some 32, op := _, type := _, pos := _, after := _, guard := _ }) (v := .pointer (some ⟨b', o', none⟩)) rfl (by kernel_rfl) (by kernel_rfl) (by kernel_rfl) (fun _ _ _ h => h) (Or.inl ⟨by rfl, ?_⟩) (by assumption) ?_
    · intro w hSw; obtain ⟨p0, p1, p2, p3, q0, q1, q2, q3⟩ := hSw; go_simp
    try simp only [Act.put, List.setIfInBounds_toArray, List.set_cons_zero, List.set_cons_succ]
    refine wpAnyH_take (i := 27) (oi := { dst := some 33, op := _, type := _, pos := _, after := _, guard := _ }) (v := .pointer (some ⟨b', o' + 2, none⟩)) rfl (by kernel_rfl) (by kernel_rfl) (by kernel_rfl) (fun _ _ _ h => h) (Or.inl ⟨by rfl, ?_⟩) (by assumption) ?_
    · intro w hSw; obtain ⟨p0, p1, p2, p3, q0, q1, q2, q3⟩ := hSw; go_simp
    try simp only [Act.put, List.setIfInBounds_toArray, List.set_cons_zero, List.set_cons_succ]
    refine wpAnyH_take (i := 28) (oi := { dst := some 34, op := _, type := _, pos := _, after := _, guard := _ }) (v := .slice y.da y.ds.length y.dc) rfl (by kernel_rfl) (by kernel_rfl) (by kernel_rfl) (fun _ _ _ h => h) (Or.inl ⟨by rfl, ?_⟩) (by assumption) ?_
    · intro w hSw; obtain ⟨p0, p1, p2, p3, q0, q1, q2, q3⟩ := hSw; go_simp
    try simp only [Act.put, List.setIfInBounds_toArray, List.set_cons_zero, List.set_cons_succ]
    refine wpAnyH_ready (rs := [29]) (by kernel_rfl) (by simp) ?_
    refine AllReadyH.cons (o := { dst := some 35, op := _, type := _, pos := _, after := _, guard := _ }) rfl (fun K hK => ?_) AllReadyH.nil
    go_simp
    go_at_call 32
    refine (NO.out w.drew (coAt.grow AX.out (Gw.refl w).drew).2.dat (coAt.grow AY.out (Gw.refl w).drew).2.dat).mono ?_
    rintro e w2 ⟨rfl, g2⟩
    have k2 : ∀ b o, b < w.heap.size → w2.cell? ⟨b, o, none⟩ = w.cell? ⟨b, o, none⟩ := fun b o h => (bcell g2).1 b o h
    go_wp2_with fail
    refine hK.out _ _ ⟨(k2 _ _ lx).trans p0, (k2 _ _ lx).trans p1, (k2 _ _ lx).trans p2, (k2 _ _ lx).trans p3, (k2 _ _ ly).trans q0, (k2 _ _ ly).trans q1, (k2 _ _ ly).trans q2, (k2 _ _ ly).trans q3⟩ (fun hHeld => ?_)
    clear hK K
    try simp only [Act.put, List.setIfInBounds_toArray, List.set_cons_zero, List.set_cons_succ]
    refine wpAnyH_take (i := 30) (oi := { dst := some 36, op := _, type := _, pos := _, after := _, guard := _ }) (v := .bool true) rfl (by kernel_rfl) (by kernel_rfl) (by kernel_rfl) (fun _ _ _ h => h) (Or.inl ⟨by rfl, ?_⟩) (by assumption) ?_
    · intro w hSw; obtain ⟨p0, p1, p2, p3, q0, q1, q2, q3⟩ := hSw; go_simp
    try simp only [Act.put, List.setIfInBounds_toArray, List.set_cons_zero, List.set_cons_succ]
    refine wpAnyH_take (i := 31) (oi := { dst := some 37, op := _, type := _, pos := _, after := _, guard := _ }) (v := .bool true) rfl (by kernel_rfl) (by kernel_rfl) (by kernel_rfl) (fun _ _ _ h => h) (Or.inl ⟨by rfl, ?_⟩) (by assumption) ?_
    · intro w hSw; obtain ⟨p0, p1, p2, p3, q0, q1, q2, q3⟩ := hSw; go_simp
    try simp only [Act.put, List.setIfInBounds_toArray, List.set_cons_zero, List.set_cons_succ]
    refine wpAnyH_take (i := 32) (oi := { dst := some 38, op := _, type := _, pos := _, after := _, guard := _ }) (v := .bool true) rfl (by kernel_rfl) (by kernel_rfl) (by kernel_rfl) (fun _ _ _ h => h) (Or.inl ⟨by rfl, ?_⟩) (by assumption) ?_
    · intro w hSw; obtain ⟨p0, p1, p2, p3, q0, q1, q2, q3⟩ := hSw; go_simp
    try simp only [Act.put, List.setIfInBounds_toArray, List.set_cons_zero, List.set_cons_succ]
    refine wpAnyH_take (i := 33) (oi := { dst := some 39, op := _, type := _, pos := _, after := _, guard := _ }) (v := undef) rfl (by kernel_rfl) (by kernel_rfl) (by kernel_rfl) (fun _ _ _ h => h) (Or.inr ⟨by rfl, rfl⟩) (by assumption) ?_
    try simp only [Act.put, List.setIfInBounds_toArray, List.set_cons_zero, List.set_cons_succ]
    refine wpAnyH_take (i := 34) (oi := { dst := some 40, op := _, type := _, pos := _, after := _, guard := _ }) (v := undef) rfl (by kernel_rfl) (by kernel_rfl) (by kernel_rfl) (fun _ _ _ h => h) (Or.inr ⟨by rfl, rfl⟩) (by assumption) ?_
    try simp only [Act.put, List.setIfInBounds_toArray, List.set_cons_zero, List.set_cons_succ]
    refine wpAnyH_take (i := 35) (oi := { dst := some 41, op := _, type := _, pos := _, after := _, guard := _ }) (v := undef) rfl (by kernel_rfl) (by kernel_rfl) (by kernel_rfl) (fun _ _ _ h => h) (Or.inr ⟨by rfl, rfl⟩) (by assumption) ?_
    try simp only [Act.put, List.setIfInBounds_toArray, List.set_cons_zero, List.set_cons_succ]
    refine wpAnyH_take (i := 36) (oi := { dst := some 42, op := _, type := _, pos := _, after := _, guard := _ }) (v := undef) rfl (by kernel_rfl) (by kernel_rfl) (by kernel_rfl) (fun _ _ _ h => h) (Or.inr ⟨by rfl, rfl⟩) (by assumption) ?_
    try simp only [Act.put, List.setIfInBounds_toArray, List.set_cons_zero, List.set_cons_succ]
    refine wpAnyH_take (i := 37) (oi := { dst := some 43, op := _, type := _, pos := _, after := _, guard := _ }) (v := undef) rfl (by kernel_rfl) (by kernel_rfl) (by kernel_rfl) (fun _ _ _ h => h) (Or.inr ⟨by rfl, rfl⟩) (by assumption) ?_
    try simp only [Act.put, List.setIfInBounds_toArray, List.set_cons_zero, List.set_cons_succ]
    refine wpAnyH_take (i := 38) (oi := { dst := some 44, op := _, type := _, pos := _, after := _, guard := _ }) (v := undef) rfl (by kernel_rfl) (by kernel_rfl) (by kernel_rfl) (fun _ _ _ h => h) (Or.inr ⟨by rfl, rfl⟩) (by assumption) ?_
    try simp only [Act.put, List.setIfInBounds_toArray, List.set_cons_zero, List.set_cons_succ]
    refine wpAnyH_take (i := 39) (oi := { dst := some 45, op := _, type := _, pos := _, after := _, guard := _ }) (v := undef) rfl (by kernel_rfl) (by kernel_rfl) (by kernel_rfl) (fun _ _ _ h => h) (Or.inr ⟨by rfl, rfl⟩) (by assumption) ?_
    try simp only [Act.put, List.setIfInBounds_toArray, List.set_cons_zero, List.set_cons_succ]
    refine wpAnyH_take (i := 40) (oi := { dst := some 46, op := _, type := _, pos := _, after := _, guard := _ }) (v := undef) rfl (by kernel_rfl) (by kernel_rfl) (by kernel_rfl) (fun _ _ _ h => h) (Or.inr ⟨by rfl, rfl⟩) (by assumption) ?_
    try simp only [Act.put, List.setIfInBounds_toArray, List.set_cons_zero, List.set_cons_succ]
    refine wpAnyH_take (i := 41) (oi := { dst := some 47, op := _, type := _, pos := _, after := _, guard := _ }) (v := undef) rfl (by kernel_rfl) (by kernel_rfl) (by kernel_rfl) (fun _ _ _ h => h) (Or.inr ⟨by rfl, rfl⟩) (by assumption) ?_
    try simp only [Act.put, List.setIfInBounds_toArray, List.set_cons_zero, List.set_cons_succ]
    refine wpAnyH_take (i := 42) (oi := { dst := some 48, op := _, type := _, pos := _, after := _, guard := _ }) (v := undef) rfl (by kernel_rfl) (by kernel_rfl) (by kernel_rfl) (fun _ _ _ h => h) (Or.inr ⟨by rfl, rfl⟩) (by assumption) ?_
    try simp only [Act.put, List.setIfInBounds_toArray, List.set_cons_zero, List.set_cons_succ]
    refine wpAnyH_take (i := 43) (oi := { dst := some 49, op := _, type := _, pos := _, after := _, guard := _ }) (v := undef) rfl (by kernel_rfl) (by kernel_rfl) (by kernel_rfl) (fun _ _ _ h => h) (Or.inr ⟨by rfl, rfl⟩) (by assumption) ?_
    try simp only [Act.put, List.setIfInBounds_toArray, List.set_cons_zero, List.set_cons_succ]
    refine wpAnyH_take (i := 44) (oi := { dst := some 50, op := _, type := _, pos := _, after := _, guard := _ }) (v := .bool true) rfl (by kernel_rfl) (by kernel_rfl) (by kernel_rfl) (fun _ _ _ h => h) (Or.inl ⟨by rfl, ?_⟩) (by assumption) ?_
    · intro w hSw; obtain ⟨p0, p1, p2, p3, q0, q1, q2, q3⟩ := hSw; go_simp
    try simp only [Act.put, List.setIfInBounds_toArray, List.set_cons_zero, List.set_cons_succ]
    refine wpAnyH_done (by kernel_rfl) ?_ _
    go_wp2_with fail
    go_ret
    exact sameK_false F.out ((Gw.refl w).drew.trans g2)
  have H3 := Lib.hid h3
  have YES := Lib.hid (fun (w : World) hx hy => spec_sameN_yes x.ds y.ds w x.da y.da x.dc y.dc hx hy h3)
  clear h3
  obtain ⟨n, hn⟩ : ∃ n, n = x.ks.length := ⟨_, rfl⟩
  obtain ⟨m, hm⟩ : ∃ m, m = y.ks.length := ⟨_, rfl⟩
  rw [← hn] at p3 hlx
  rw [← hm] at q3 hly
  have HN := Lib.hid hn
  have HM := Lib.hid hm
  clear hn hm
  by_cases hnm : n = m
  rotate_left
  · have z1 : ((n : Int) != (m : Int)) = true := by simp; omega
    have F := Lib.hid (show ¬ x.co = y.co from fun e => hnm (by rw [HN.out, HM.out]; exact ((KCore.same_iff x y).1 e).2.1))
    clear hnm
    go_region_held3 (fun W => W.cell? ⟨b, o, none⟩ = some (.int .i64 x.k) ∧ W.cell? ⟨b, o + 1, none⟩ = some (.int .i64 x.v) ∧ W.cell? ⟨b, o + 2, none⟩ = some (.slice x.da x.ds.length x.dc) ∧ W.cell? ⟨b, o + 3, none⟩ = some (.slice x.a n x.cap) ∧ W.cell? ⟨b', o', none⟩ = some (.int .i64 y.k) ∧ W.cell? ⟨b', o' + 1, none⟩ = some (.int .i64 y.v) ∧ W.cell? ⟨b', o' + 2, none⟩ = some (.slice y.da y.ds.length y.dc) ∧ W.cell? ⟨b', o' + 3, none⟩ = some (.slice y.a m y.cap))
      (first | exact ⟨p0, p1, p2, p3, q0, q1, q2, q3⟩ | exact ⟨(k2 _ _ lx).trans p0, (k2 _ _ lx).trans p1, (k2 _ _ lx).trans p2, (k2 _ _ lx).trans p3, (k2 _ _ ly).trans q0, (k2 _ _ ly).trans q1, (k2 _ _ ly).trans q2, (k2 _ _ ly).trans q3⟩)
      (first
        | (go_at_call 32; refine (YES.out _ (by exact (coAt.grow AX.out (Gw.refl w).drew).2.dat) (by exact (coAt.grow AY.out (Gw.refl w).drew).2.dat)).mono ?_; rintro e w2 ⟨rfl, g2⟩; have k2 : ∀ b o, b < w.heap.size → w2.cell? ⟨b, o, none⟩ = w.cell? ⟨b, o, none⟩ := fun b o h => (bcell g2).1 b o h))
    have GA := Lib.hid ((Gw.refl w).drew.trans g2)
    clear k2 g2 p0 p1 p2 p3 q0 q1 q2 q3 YES d1 d2
    go_wp2_with fail
    go_ret
    exact sameK_false F.out GA.out
  subst hnm
  have z1 : ((n : Int) != (n : Int)) = false := by simp
  go_region_held3 (fun W => W.cell? ⟨b, o, none⟩ = some (.int .i64 x.k) ∧ W.cell? ⟨b, o + 1, none⟩ = some (.int .i64 x.v) ∧ W.cell? ⟨b, o + 2, none⟩ = some (.slice x.da x.ds.length x.dc) ∧ W.cell? ⟨b, o + 3, none⟩ = some (.slice x.a n x.cap) ∧ W.cell? ⟨b', o', none⟩ = some (.int .i64 y.k) ∧ W.cell? ⟨b', o' + 1, none⟩ = some (.int .i64 y.v) ∧ W.cell? ⟨b', o' + 2, none⟩ = some (.slice y.da y.ds.length y.dc) ∧ W.cell? ⟨b', o' + 3, none⟩ = some (.slice y.a n y.cap))
    (first | exact ⟨p0, p1, p2, p3, q0, q1, q2, q3⟩ | exact ⟨(k2 _ _ lx).trans p0, (k2 _ _ lx).trans p1, (k2 _ _ lx).trans p2, (k2 _ _ lx).trans p3, (k2 _ _ ly).trans q0, (k2 _ _ ly).trans q1, (k2 _ _ ly).trans q2, (k2 _ _ ly).trans q3⟩)
    (first
      | (go_at_call 32; refine (YES.out _ (by exact (coAt.grow AX.out (Gw.refl w).drew).2.dat) (by exact (coAt.grow AY.out (Gw.refl w).drew).2.dat)).mono ?_; rintro e w2 ⟨rfl, g2⟩; have k2 : ∀ b o, b < w.heap.size → w2.cell? ⟨b, o, none⟩ = w.cell? ⟨b, o, none⟩ := fun b o h => (bcell g2).1 b o h))
  have GA := Lib.hid ((Gw.refl w).drew.trans g2)
  clear k2 g2 p0 p1 p2 p3 q0 q1 q2 q3 YES d1 d2
  go_wp2_with fail
  clear z1
  go_loopw [5] (fun i wr => ∃ j : Nat, j ≤ n ∧ i = .int .i64 j ∧ Gw w wr ∧ ∀ i (hx : i < x.ks.length) (hy : i < y.ks.length), i < j → x.ks[i].co = y.ks[i].co) (fun i _ => n - (intOf i).toNat)
  case atStart => exact ⟨0, by omega, rfl, GA.out, fun i _ _ h => absurd h (by omega)⟩
  case round =>
    obtain ⟨j, hj, rfl, hg, hall⟩ := hrel
    have HALL := Lib.hid hall
    have HG := Lib.hid hg
    clear hall
    obtain ⟨p0, p1, p2, p3⟩ := (AX.out.grow hg).c
    obtain ⟨q0, q1, q2, q3⟩ := (AY.out.grow hg).c
    rw [← HN.out] at p3
    rw [← HM.out] at q3
    by_cases hlt : j < n
    · have hjx : j < x.ks.length := by have := HN.out; omega
      have hjy : j < y.ks.length := by have := HM.out; omega
      obtain ⟨bk, ok, ea, hkid⟩ := coAt.kid (AX.out.grow hg).2.kids j hjx
      obtain ⟨bl, ol, eb, hkjd⟩ := coAt.kid (AY.out.grow hg).2.kids j hjy
      rw [ea] at p3
      rw [eb] at q3
      have s0 : (0 : Int) ≤ j := by omega
      have s1 : (j : Int) < n := by omega
      have K1 := Lib.hid (hkid.grow (Gw.refl wr).drew)
      have K2 := Lib.hid (hkjd.grow (Gw.refl wr).drew)
      have lx3 := cell_lt p3
      have ly3 := cell_lt q3
      clear ea eb hkid hkjd hg p0 p1 p2 q0 q1 q2
      go_wp2_with fail
      go_region_held3 (fun W => W.cell? ⟨b, o + 3, none⟩ = some (.slice (some ⟨bk, ok, none⟩) n x.cap) ∧ W.cell? ⟨b', o' + 3, none⟩ = some (.slice (some ⟨bl, ol, none⟩) n y.cap))
        (first | exact ⟨p3, q3⟩ | exact ⟨(k5 _ _ lx3).trans p3, (k5 _ _ ly3).trans q3⟩)
        (first
          | (go_at_call 48; refine (ih x.ks[j] (List.getElem_mem hjx) y.ks[j] _ bk (ok + j * 4) bl (ol + j * 4) (by exact K1.out) (by exact K2.out)).mono ?_; rintro e w5 ⟨r, rfl, hr, g5⟩; have k5 : ∀ b o, b < wr.heap.size → w5.cell? ⟨b, o, none⟩ = wr.cell? ⟨b, o, none⟩ := fun b o h => (bcell g5).1 b o h))
      have HG5 := Lib.hid ((HG.out.drew).trans g5)
      clear g5 k5 p3 q3
      cases r with
      | false =>
        have F := Lib.hid (show ¬ x.co = y.co from fun e => by have := hr.2 (((KCore.same_iff x y).1 e).2.2 j hjx hjy); cases this)
        clear hr
        go_wp2_with fail
        go_ret
        exact sameK_false F.out HG5.out
      | true =>
        have HE := Lib.hid (hr.1 rfl)
        clear hr
        go_wp2_with fail
        go_roundw
        case rel =>
          refine ⟨j + 1, by omega, by go_num, HG5.out, fun i hx hy hi => ?_⟩
          by_cases e : i = j
          · subst e; exact HE.out
          · exact HALL.out i hx hy (by omega)
        case measure => simp [intOf]; omega
    · obtain rfl : j = n := by omega
      have F := Lib.hid (show x.co = y.co from (KCore.same_iff x y).2 ⟨⟨H1.out, H2.out, H3.out⟩, by rw [← HN.out, ← HM.out], fun i hx hy => HALL.out i hx hy (by have := HN.out; omega)⟩)
      clear p0 p1 p2 q0 q1 q2
      go_wp2_with fail
      go_ret
      exact sameK_true F.out HG.out

theorem sk_all (x : LK) : SkC x := by
  refine LK.ind (P := SkC) (fun k v da dc ds a c ks ih => ?_) x
  exact sk_of (.mk k v da dc ds a c ks) ih

end Go.Proofs.Ytkpbiifikkbaeaa.Con
