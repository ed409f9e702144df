/-
  Contracts of the program's addressPlaces: its closure hands out the places in which a state of a machine has addresses, in the order of the control, the stack and the heap. Condition: the state lies in memory.
-/
import Derived.Test.YtkpbiifikkbaeaaDoorCoYd
import Derived.Test.YtkpbiifikkbaeaaDoorNdAt
namespace Go.Proofs.YtkpbiifikkbaeaaDoor.Con
open Go.RowKit
set_option linter.unusedVariables false
set_option linter.unusedSimpArgs false
attribute [local go_sem] Oper.semAt_some

/-- A place with a number. -/
structure Pl where
  b : Nat
  o : Nat
  v : Int
def okP (w0 : World) (LL : List Int) (x : Pl) : Prop := x.v ∈ LL ∧ w0.cell? ⟨x.b, x.o, none⟩ = some (.int .i64 x.v)
abbrev PlS (w0 : World) (LL : List Int) : Type := { x : Pl // okP w0 LL x }
def encP (x : Pl) : Array Value := #[.pointer (some ⟨x.b, x.o, none⟩)]

/-- What lies below n0 is as it was, and so are all boxes of yields. -/
def KeepQ (n0 : Nat) (W W' : World) : Prop := Below n0 W W' ∧ ∀ (b : Nat) (cs : Array Value) (fr : Nat × Nat), W.heap[b]? = some (Obj.cells cs 131 fr) → W'.heap[b]? = W.heap[b]?
theorem KeepQ.refl (n0 : Nat) (A : World) : KeepQ n0 A A := ⟨Below.refl n0 A, fun _ _ _ _ => rfl⟩
theorem KeepQ.trans {n0 : Nat} {A B C : World} (h : KeepQ n0 A B) (k : KeepQ n0 B C) : KeepQ n0 A C := ⟨h.1.trans k.1, fun b cs fr eq => (k.2 b cs fr ((h.2 b cs fr eq).trans eq)).trans (h.2 b cs fr eq)⟩
theorem KeepQ.gw {n0 : Nat} {A B : World} (hn : n0 ≤ A.heap.size) (g : Gw A B) : KeepQ n0 A B := ⟨g.mono hn, fun b cs fr eq => g.block b (Array.getElem?_eq_some_iff.1 eq).1⟩
theorem keepQ_b {n0 : Nat} {w : World} (hn : n0 ≤ w.heap.size) (W : World) (l : Nat) (o o' : Obj) (hl : w.heap.size ≤ l) (h : W.heap[l]? = some o) (h1 : o.isCells = false) (h2 : o.isWalk = false) : KeepQ n0 W (W.putObj l o') :=
  ⟨belowK_b hn W l o o' hl h h1 h2, fun b cs fr eq => World.putObj_heap_other (fun e' => by subst e'; rw [h] at eq; cases eq; cases h1)⟩
theorem KeepQ.ybox {n0 b : Nat} {A B : World} {v : Value} (h : KeepQ n0 A B) (k : Boxed A b 131 v) : Boxed B b 131 v := (h.2 b _ _ k).trans k
theorem one_way {A B : Prop} {e : Ending} (h : (e = .returned (.bool true) ∧ A) ∨ (e = .returned (.bool false) ∧ B)) : ∃ r : Bool, e = .returned (.bool r) ∧ (r = true → A) ∧ (r = false → B) := by
  rcases h with ⟨rfl, h⟩ | ⟨rfl, h⟩
  · exact ⟨true, rfl, (fun _ => h), (fun h => by cases h)⟩
  · exact ⟨false, rfl, (fun h => by cases h), (fun _ => h)⟩

def YQ (w0 : World) (LL : List Int) (J Jx : List (PlS w0 LL) → World → Prop) (pre : List (PlS w0 LL)) (xs : List Int) (W : World) (e : Ending) (W' : World) : Prop :=
  ∃ r : Bool, e = .returned (.bool r) ∧ (r = true → ∃ seg : List (PlS w0 LL), seg.map (fun x => x.1.v) = xs ∧ J (pre ++ seg) W' ∧ KeepQ w0.heap.size W W') ∧ (r = false → ∃ s, Jx s W')
def YH (l N : Nat) (w0 : World) (LL : List Int) (J Jx : List (PlS w0 LL) → World → Prop) : Prop := ∀ pre x W1, J pre W1 → pre.length < N → YieldAt Fence.wide 4 Tryd.prog l (encP x.1) W1 fun e W' => (e = .returned (.bool true) ∧ J (pre ++ [x]) W' ∧ KeepQ w0.heap.size W1 W') ∨ (e = .returned (.bool false) ∧ Jx (pre ++ [x]) W')

set_option maxRecDepth 100000 in
set_option maxHeartbeats 4000000 in
theorem ya_of (l N : Nat) (w0 : World) (LL : List Int) (J Jx : List (PlS w0 LL) → World → Prop) (BJ : Nat) (hJ : AbidesFrom BJ J) (hY : YH l N w0 LL J Jx)
    (xs : List Int) (ea : Option Addr) (ec : Nat) (hE : numSl w0 ea ec xs) (hLL : ∀ v ∈ xs, v ∈ LL) (W : World) (pre : List (PlS w0 LL)) (By : Nat) (hN : pre.length + xs.length ≤ N) (g0 : Gw w0 W) (hpre : J pre W) (hB : Boxed W By 131 (.func (.yield l) #[] #[])) :
    Calls Tryd.prog 85 #[.slice ea xs.length ec, .pointer (some ⟨By, 0, none⟩)] W (YQ w0 LL J Jx pre xs W) := by
  have hl : xs.length ≤ 9223372036854775807 := Nat.le_trans hE.1 hE.2.1
  have HE := Lib.hid hE
  have HLL := Lib.hid hLL
  have HJ := Lib.hid hJ
  have HY := Lib.hid hY
  have G0 := Lib.hid g0
  have J0 := Lib.hid hpre
  have B0 := Lib.hid hB
  have HN := Lib.hid hN
  clear hE hLL hJ hY g0 hpre hB hN
  have hmx : Tryd.prog.follows .mixedOrders = true := by kernel_rfl
  go_enter Tryd.func85, Tryd.ntmps85
  go_wp2_with fail
  go_loopw [7] (fun i wr => ∃ (j : Nat) (seg : List (PlS w0 LL)), j ≤ xs.length ∧ i = .int .i64 j ∧ seg.map (fun x => x.1.v) = xs.take j ∧ J (pre ++ seg) wr ∧ KeepQ w0.heap.size W wr) (fun i _ => xs.length - (intOf i).toNat)
  case atStart => exact ⟨0, [], Nat.zero_le _, rfl, rfl, by rw [List.append_nil]; exact J0.out, KeepQ.refl _ _⟩
  case round =>
    obtain ⟨j, seg, hj, rfl, hsg, hJr, hKr⟩ := hrel
    have SG := Lib.hid hsg
    have JR := Lib.hid hJr
    have KR := Lib.hid hKr
    by_cases hlt : j < xs.length
    · obtain ⟨be, oe, ha, hr⟩ := HE.out.2.2.resolve_left (fun e => by rw [e] at hlt; simp at hlt)
      have c0 := (numRow_get hr j hlt).1
      obtain ⟨x0, hx0⟩ : ∃ x : PlS w0 LL, x.1 = ⟨be, oe + j, xs[j]⟩ := ⟨⟨⟨be, oe + j, xs[j]⟩, HLL.out _ (List.getElem_mem hlt), c0⟩, rfl⟩
      have hJd := abides_gw HJ.out hJr (Gw.refl wr).drew
      have hsl : seg.length = j := by
        have := congrArg List.length hsg
        rw [List.length_map, List.length_take] at this
        omega
      obtain ⟨fn, tmps, assign, body, hy, hR⟩ := HY.out _ x0 _ hJd (by rw [List.length_append, hsl]; have := HN.out; omega)
      rw [hx0] at hy
      simp only [encP] at hy
      have HR := Lib.hid hR
      have HX0 := Lib.hid hx0
      have HC0 := Lib.hid c0
      have cB := (hKr.ybox B0.out).cell
      have r0 : (0 : Int) ≤ j := by omega
      have r1 : (j : Int) < xs.length := by omega
      have HA := Lib.hid ha
      rw [ha]
      clear hr ha hJd hsl hR hx0 c0 hsg hJr hKr
      go_upto_region 4 with (fail)
      refine (wpIn_wide (n := 5)).1 ?_
      gi_region_with_o (refine HR.out.mono ?_; rintro e W2 h; obtain ⟨r, rfl, ht, hf⟩ := one_way h; have HT := Lib.hid ht; have HF := Lib.hid hf; clear ht hf h cB)
      have K2 := Lib.hid (show r = true → KeepQ w0.heap.size W W2 from fun h => (KR.out.trans (KeepQ.gw (Nat.le_trans G0.out.size KR.out.1.size) (Gw.refl wr).drew)).trans (HT.out h).2)
      cases r with
      | false =>
        have HX := Lib.hid (HF.out rfl)
        clear HT HF K2
        go_wp2_with fail
        go_ret
        exact ⟨false, rfl, (fun h => (by cases h)), fun _ => ⟨_, HX.out⟩⟩
      | true =>
        have HX := Lib.hid (HT.out rfl)
        have K3 := Lib.hid (K2.out rfl)
        clear HT HF K2
        go_wp2_with fail
        go_roundw
        case rel =>
          refine ⟨j + 1, seg ++ [x0], by omega, by go_num, ?_, by rw [← List.append_assoc]; exact HX.out.1, K3.out⟩
          rw [List.map_append, SG.out, List.map_cons, List.map_nil, HX0.out, List.take_add_one, List.getElem?_eq_getElem hlt]; rfl
        case measure => simp [intOf]; omega
    · obtain rfl : j = xs.length := by omega
      clear hsg hJr hKr
      go_wp2_with fail
      go_ret
      exact ⟨true, rfl, (fun _ => ⟨seg, by rw [SG.out, List.take_length], JR.out, KR.out⟩), fun h => (by cases h)⟩

def frP (f : LFr) : List Int := (if f.k = 1 ∨ f.k = 2 then [f.v] else []) ++ f.c.e
/-- The numbers of the places of a state. -/
def plcs (m : LNd) : List Int := m.c.e ++ (m.s.flatMap frP ++ m.h.flatMap fun t => t.c.e)
def pl1 (m : LNd) (j : Nat) : List Int := m.c.e ++ (m.s.take j).flatMap frP
def pl2 (m : LNd) (j : Nat) : List Int := m.c.e ++ (m.s.flatMap frP ++ (m.h.take j).flatMap fun t => t.c.e)
theorem pl1_succ {m : LNd} {j : Nat} (hj : j < m.s.length) : pl1 m (j + 1) = pl1 m j ++ frP m.s[j] := by
  unfold pl1
  rw [List.take_add_one, List.getElem?_eq_getElem hj, List.flatMap_append]
  simp only [Option.toList, List.flatMap_cons, List.flatMap_nil, List.append_nil, List.append_assoc]
theorem pl2_succ {m : LNd} {j : Nat} (hj : j < m.h.length) : pl2 m (j + 1) = pl2 m j ++ m.h[j].c.e := by
  unfold pl2
  rw [List.take_add_one, List.getElem?_eq_getElem hj, List.flatMap_append]
  simp only [Option.toList, List.flatMap_cons, List.flatMap_nil, List.append_nil, List.append_assoc]
theorem pl1_le (m : LNd) (j : Nat) : (pl1 m j).length ≤ (plcs m).length := by
  have h : (m.s.flatMap frP).length = ((m.s.take j).flatMap frP).length + ((m.s.drop j).flatMap frP).length := by
    rw [← List.length_append, ← List.flatMap_append, List.take_append_drop]
  unfold pl1 plcs
  simp only [List.length_append]
  omega
theorem pl2_le (m : LNd) (j : Nat) : (pl2 m j).length ≤ (plcs m).length := by
  have h : (m.h.flatMap fun t => t.c.e).length = ((m.h.take j).flatMap fun t => t.c.e).length + ((m.h.drop j).flatMap fun t => t.c.e).length := by
    rw [← List.length_append, ← List.flatMap_append, List.take_append_drop]
  unfold pl2 plcs
  simp only [List.length_append]
  omega
theorem pl1_all (m : LNd) : pl1 m m.s.length = pl2 m 0 := by
  unfold pl1 pl2
  rw [List.take_length, List.take_zero, List.flatMap_nil, List.append_nil]
theorem pl2_all (m : LNd) : pl2 m m.h.length = plcs m := by
  unfold pl2 plcs
  rw [List.take_length]
theorem plcs_c {m : LNd} {v : Int} (h : v ∈ m.c.e) : v ∈ plcs m := List.mem_append_left _ h
theorem plcs_s {m : LNd} {v : Int} {f : LFr} (hf : f ∈ m.s) (h : v ∈ frP f) : v ∈ plcs m := List.mem_append_right _ (List.mem_append_left _ (List.mem_flatMap.2 ⟨f, hf, h⟩))
theorem plcs_h {m : LNd} {v : Int} {t : LTh} (ht : t ∈ m.h) (h : v ∈ t.c.e) : v ∈ plcs m := List.mem_append_right _ (List.mem_append_right _ (List.mem_flatMap.2 ⟨t, ht, h⟩))
theorem seg_len {w0 : World} {LL : List Int} {seg : List (PlS w0 LL)} {xs : List Int} (h : seg.map (fun x => x.1.v) = xs) : seg.length = xs.length := by rw [← h, List.length_map]

set_option maxRecDepth 100000 in
set_option maxHeartbeats 8000000 in
theorem ap_of (l N : Nat) (w0 : World) (LL : List Int) (J Jx : List (PlS w0 LL) → World → Prop) (BJ : Nat) (hJ : AbidesFrom BJ J) (hY : YH l N w0 LL J Jx) (m : LNd) (bn : Nat) (hx : ndAt w0 bn 0 m) (hLL : LL = plcs m) (hN : N = LL.length)
    (W : World) (Bm : Nat) (hBm : W.cell? ⟨Bm, 0, none⟩ = some (.pointer (some ⟨bn, 0, none⟩))) (hBl : Bm < w0.heap.size) (g0 : Gw w0 W) (h0 : J [] W) :
    Calls Tryd.prog 84 #[.func (.yield l) #[] #[], .pointer (some ⟨Bm, 0, none⟩)] W fun e W' => (∃ v, e = .returned v) ∧ ((∃ ys : List (PlS w0 LL), ys.map (fun x => x.1.v) = plcs m ∧ J ys W') ∨ (∃ pre, True ∧ Jx pre W')) := by
  have gA : Gw W (W.alloc (.cells #[.func (.yield l) #[] #[]] 131)) := (Gw.refl W).alloc _
  have BY := Lib.hid (Boxed.new W 131 (.func (.yield l) #[] #[]))
  have J1 := Lib.hid (abides_gw hJ h0 gA)
  have G1 := Lib.hid (Gw.trans g0 gA)
  have CM := Lib.hid (gA.cell hBm (cell_lt hBm))
  have hls : m.s.length ≤ 9223372036854775807 := Nat.le_trans hx.2.2.1.1 hx.2.2.1.2.1
  have hlh : m.h.length ≤ 9223372036854775807 := Nat.le_trans hx.2.2.2.1 hx.2.2.2.2.1
  have HX := Lib.hid hx
  have HLL := Lib.hid hLL
  have HN := Lib.hid hN
  have HJ := Lib.hid hJ
  have HY := Lib.hid hY
  have HBL := Lib.hid (show ∀ X Y, Gw w0 X → X.cell? ⟨Bm, 0, none⟩ = some (.pointer (some ⟨bn, 0, none⟩)) → KeepQ w0.heap.size X Y → Y.cell? ⟨Bm, 0, none⟩ = some (.pointer (some ⟨bn, 0, none⟩)) from fun X Y g h k => (k.1.cell (p := ⟨Bm, 0, none⟩) hBl).trans h)
  clear hx hLL hN hJ hY hBm g0 h0 gA
  have hmx : Tryd.prog.follows .mixedOrders = true := by kernel_rfl
  go_enter Tryd.func84, Tryd.ntmps84
  go_upto_region 1 with (fail)
  generalize W.alloc (.cells #[.func (.yield l) #[] #[]] 131) = W1 at *
  have KC := Lib.hid (ya_of l N w0 LL J Jx BJ HJ.out HY.out m.c.e m.c.ea m.c.ec HX.out.2.1.2 (fun v hv => by rw [HLL.out]; exact plcs_c hv) W1 [] W.heap.size (by rw [HN.out, HLL.out]; have := pl1_le m 0; unfold pl1 at this; simp at this ⊢; omega) G1.out J1.out BY.out)
  have q4 := (HX.out.grow ndGr G1.out).1 4 _ rfl
  have qm := CM.out
  go_wp2_with fail
  refine KC.out.mono ?_
  rintro e W2 ⟨r, rfl, ht, hf⟩
  cases r with
  | false =>
    have HXx := Lib.hid (hf rfl)
    clear ht hf q4 qm
    go_wp2_with fail
    refine bodyPost_ret (results_none rfl _ _ _) rfl ?_
    exact ⟨⟨_, rfl⟩, .inr (by obtain ⟨s, hs⟩ := HXx.out; first | exact ⟨s, trivial, hs⟩ | exact ⟨s, hs⟩)⟩
  | true =>
  have HS0 := Lib.hid (ht rfl)
  clear ht hf q4 qm KC
  have k2 : KeepQ w0.heap.size W1 W2 := by obtain ⟨_, _, _, k⟩ := HS0.out; exact k
  have q5 := (HX.out.grow ndGr (Below.trans G1.out k2.1)).1 5 _ rfl
  have qm := HBL.out _ _ G1.out CM.out k2
  clear k2
  go_wp2_with fail
  clear q5 qm
  go_loopw [22] (fun i wr => ∃ (j : Nat) (seg : List (PlS w0 LL)), j ≤ m.s.length ∧ i = .int .i64 j ∧ seg.map (fun x => x.1.v) = pl1 m j ∧ J seg wr ∧ KeepQ w0.heap.size W1 wr) (fun i _ => m.s.length - (intOf i).toNat)
  case atStart =>
    obtain ⟨sg, e1, j1, k1⟩ := HS0.out
    exact ⟨0, sg, Nat.zero_le _, rfl, by rw [e1]; unfold pl1; simp, by rwa [List.nil_append] at j1, k1⟩
  case round =>
    obtain ⟨j, seg, hj, rfl, hsg, hJr, hKr⟩ := hrel
    have SG := Lib.hid hsg
    have JD := Lib.hid (abides_gw HJ.out hJr (Gw.refl wr).drew)
    have JR := Lib.hid hJr
    have KR := Lib.hid hKr
    have hgr : Gw w0 wr := Below.trans G1.out hKr.1
    have hws : w0.heap.size ≤ wr.heap.size := hgr.size
    have q5 := (HX.out.grow ndGr hgr).1 5 _ rfl
    have qm := HBL.out _ _ G1.out CM.out hKr
    clear hsg hJr HS0
    by_cases hlt : j < m.s.length
    · obtain ⟨b, o, ha, hk⟩ := gAt.row HX.out.2.2.1 j hlt
      have FA := Lib.hid hk
      have hkr := hk.grow frGr hgr
      have c0 := hkr.1 0 _ rfl
      rw [Nat.add_zero] at c0
      have c1 := hkr.1 1 _ rfl
      have c7 := hkr.1 7 _ rfl
      have cB := (hKr.ybox BY.out).cell
      have EN := Lib.hid (show numSl w0 m.s[j].c.ea m.s[j].c.ec m.s[j].c.e from hk.2.2.2.2.2)
      have EL := Lib.hid (show ∀ v ∈ m.s[j].c.e, v ∈ LL from fun v hv => by rw [HLL.out]; exact plcs_s (List.getElem_mem hlt) (List.mem_append_right _ hv))
      have LB := Lib.hid (show (pl1 m j ++ frP m.s[j]).length ≤ N by rw [← pl1_succ hlt, HN.out, HLL.out]; exact pl1_le m (j + 1))
      have r0 : (0 : Int) ≤ j := by omega
      have r1 : (j : Int) < m.s.length := by omega
      rw [ha] at q5
      clear hk hkr ha hgr hKr
      by_cases e1 : m.s[j].k = 1
      · have z1 : (m.s[j].k == 1) = true := by simpa using e1
        have hfe : frP m.s[j] = m.s[j].v :: m.s[j].c.e := by unfold frP; rw [if_pos (.inl e1)]; rfl
        obtain ⟨x0, hx0⟩ : ∃ x : PlS w0 LL, x.1 = ⟨b, o + j * 8 + 1, m.s[j].v⟩ := ⟨⟨⟨b, o + j * 8 + 1, m.s[j].v⟩, by rw [HLL.out]; exact plcs_s (List.getElem_mem hlt) (by show m.s[j].v ∈ frP m.s[j]; rw [hfe]; exact List.mem_cons_self), FA.out.1 1 _ rfl⟩, rfl⟩
        obtain ⟨fn, tmps, assign, body, hy, hR⟩ := HY.out _ x0 _ JD.out (by rw [seg_len SG.out]; have := LB.out; rw [hfe] at this; simp only [List.length_append, List.length_cons, List.length_nil] at this; omega)
        rw [hx0] at hy
        simp only [encP] at hy
        have HR := Lib.hid hR
        have HX0 := Lib.hid hx0
        have FE := Lib.hid hfe
        clear hR hx0 hfe
        clear e1
        go_upto_region 8 with (fail)
        refine (wpIn_wide (n := 5)).1 ?_
        refine wpIn_region_any hmx ?_
        change wpAnyIn _ _ _ _ _ _ _ _ _ (World.drew _)
        refine wpAnyIn_take (i := 0) (oi := { dst := some 43, op := _, type := _, pos := _, after := _, guard := _ }) (v := .bool true) rfl rfl (by kernel_rfl) (by kernel_rfl) (by kernel_rfl) (fun _ _ _ h => h) ⟨Or.inl ⟨by kernel_rfl, ?_⟩, fun _ => rfl⟩ ?_
        · intro w; go_simp; try with_reducible rfl
        try simp only [Act.put, List.setIfInBounds_toArray, List.set_cons_zero, List.set_cons_succ]
        refine wpAnyIn_take (i := 1) (oi := { dst := some 44, op := _, type := _, pos := _, after := _, guard := _ }) (v := .bool true) rfl rfl (by kernel_rfl) (by kernel_rfl) (by kernel_rfl) (fun _ _ _ h => h) ⟨Or.inl ⟨by kernel_rfl, ?_⟩, fun _ => rfl⟩ ?_
        · intro w; go_simp; try with_reducible rfl
        try simp only [Act.put, List.setIfInBounds_toArray, List.set_cons_zero, List.set_cons_succ]
        refine wpAnyIn_take (i := 3) (oi := { dst := some 46, op := _, type := _, pos := _, after := _, guard := _ }) (v := .pointer (some ⟨b, o + j * 8, none⟩)) rfl rfl (by kernel_rfl) (by kernel_rfl) (by kernel_rfl) (fun _ _ _ h => h) ⟨Or.inl ⟨by kernel_rfl, ?_⟩, fun _ => rfl⟩ ?_
        · intro w; go_simp; try with_reducible rfl
        try simp only [Act.put, List.setIfInBounds_toArray, List.set_cons_zero, List.set_cons_succ]
        refine wpAnyIn_take (i := 4) (oi := { dst := some 47, op := _, type := _, pos := _, after := _, guard := _ }) (v := .pointer (some ⟨b, o + j * 8, none⟩)) rfl rfl (by kernel_rfl) (by kernel_rfl) (by kernel_rfl) (fun _ _ _ h => h) ⟨Or.inl ⟨by kernel_rfl, ?_⟩, fun _ => rfl⟩ ?_
        · intro w; go_simp; try with_reducible rfl
        try simp only [Act.put, List.setIfInBounds_toArray, List.set_cons_zero, List.set_cons_succ]
        refine wpAnyIn_take (i := 5) (oi := { dst := some 48, op := _, type := _, pos := _, after := _, guard := _ }) (v := .pointer (some ⟨b, o + j * 8 + 1, none⟩)) rfl rfl (by kernel_rfl) (by kernel_rfl) (by kernel_rfl) (fun _ _ _ h => h) ⟨Or.inl ⟨by kernel_rfl, ?_⟩, fun _ => rfl⟩ ?_
        · intro w; go_simp; try with_reducible rfl
        try simp only [Act.put, List.setIfInBounds_toArray, List.set_cons_zero, List.set_cons_succ]
        refine wpAnyIn_ready (rs := [2]) (by kernel_rfl) (by simp) ?_
        refine AllReadyIn.cons (o := { dst := some 45, op := _, type := _, pos := _, after := _, guard := _ }) rfl (fun K hK => ?_) AllReadyIn.nil
        go_simp
        refine hK _ _ ?_
        clear hK K
        try simp only [Act.put, List.setIfInBounds_toArray, List.set_cons_zero, List.set_cons_succ]
        refine wpAnyIn_ready (rs := [6]) (by kernel_rfl) (by simp) ?_
        refine AllReadyIn.cons (o := { dst := some 49, op := _, type := _, pos := _, after := _, guard := _ }) rfl (fun K hK => ?_) AllReadyIn.nil
        go_simp
        refine HR.out.mono ?_
        rintro e W2 h
        obtain ⟨r, rfl, ht, hf⟩ := one_way h
        have HT := Lib.hid ht
        have HF := Lib.hid hf
        clear ht hf h hy
        go_simp
        refine hK _ _ ?_
        clear hK K
        try simp only [Act.put, List.setIfInBounds_toArray, List.set_cons_zero, List.set_cons_succ]
        cases r with
        | false =>
          have HX := Lib.hid (HF.out rfl)
          clear HT HF c0 c1 c7 cB q5 qm z1
          refine wpAnyIn_take (i := 7) (oi := { dst := some 50, op := _, type := _, pos := _, after := _, guard := _ }) (v := .bool true) rfl rfl (by kernel_rfl) (by kernel_rfl) (by kernel_rfl) (fun _ _ _ h => h) ⟨Or.inl ⟨by kernel_rfl, ?_⟩, fun _ => rfl⟩ ?_
          · intro w; go_simp; try with_reducible rfl
          try simp only [Act.put, List.setIfInBounds_toArray, List.set_cons_zero, List.set_cons_succ]
          refine wpAnyIn_take (i := 8) (oi := { dst := some 51, op := _, type := _, pos := _, after := _, guard := _ }) (v := .bool true) rfl rfl (by kernel_rfl) (by kernel_rfl) (by kernel_rfl) (fun _ _ _ h => h) ⟨Or.inl ⟨by kernel_rfl, ?_⟩, fun _ => rfl⟩ ?_
          · intro w; go_simp; try with_reducible rfl
          try simp only [Act.put, List.setIfInBounds_toArray, List.set_cons_zero, List.set_cons_succ]
          refine wpAnyIn_take (i := 9) (oi := { dst := some 52, op := _, type := _, pos := _, after := _, guard := _ }) (v := .bool true) rfl rfl (by kernel_rfl) (by kernel_rfl) (by kernel_rfl) (fun _ _ _ h => h) ⟨Or.inl ⟨by kernel_rfl, ?_⟩, fun _ => rfl⟩ ?_
          · intro w; go_simp; try with_reducible rfl
          try simp only [Act.put, List.setIfInBounds_toArray, List.set_cons_zero, List.set_cons_succ]
          refine wpAnyIn_take (i := 10) (oi := { dst := some 53, op := _, type := _, pos := _, after := _, guard := _ }) (v := undef) rfl rfl (by kernel_rfl) (by kernel_rfl) (by kernel_rfl) (fun _ _ _ h => h) ⟨Or.inr ⟨by kernel_rfl, rfl⟩, fun _ => rfl⟩ ?_
          try simp only [Act.put, List.setIfInBounds_toArray, List.set_cons_zero, List.set_cons_succ]
          refine wpAnyIn_take (i := 11) (oi := { dst := some 54, op := _, type := _, pos := _, after := _, guard := _ }) (v := undef) rfl rfl (by kernel_rfl) (by kernel_rfl) (by kernel_rfl) (fun _ _ _ h => h) ⟨Or.inr ⟨by kernel_rfl, rfl⟩, fun _ => rfl⟩ ?_
          try simp only [Act.put, List.setIfInBounds_toArray, List.set_cons_zero, List.set_cons_succ]
          refine wpAnyIn_take (i := 12) (oi := { dst := some 55, op := _, type := _, pos := _, after := _, guard := _ }) (v := undef) rfl rfl (by kernel_rfl) (by kernel_rfl) (by kernel_rfl) (fun _ _ _ h => h) ⟨Or.inr ⟨by kernel_rfl, rfl⟩, fun _ => rfl⟩ ?_
          try simp only [Act.put, List.setIfInBounds_toArray, List.set_cons_zero, List.set_cons_succ]
          refine wpAnyIn_take (i := 13) (oi := { dst := some 56, op := _, type := _, pos := _, after := _, guard := _ }) (v := undef) rfl rfl (by kernel_rfl) (by kernel_rfl) (by kernel_rfl) (fun _ _ _ h => h) ⟨Or.inr ⟨by kernel_rfl, rfl⟩, fun _ => rfl⟩ ?_
          try simp only [Act.put, List.setIfInBounds_toArray, List.set_cons_zero, List.set_cons_succ]
          refine wpAnyIn_take (i := 14) (oi := { dst := some 57, op := _, type := _, pos := _, after := _, guard := _ }) (v := undef) rfl rfl (by kernel_rfl) (by kernel_rfl) (by kernel_rfl) (fun _ _ _ h => h) ⟨Or.inr ⟨by kernel_rfl, rfl⟩, fun _ => rfl⟩ ?_
          try simp only [Act.put, List.setIfInBounds_toArray, List.set_cons_zero, List.set_cons_succ]
          refine wpAnyIn_take (i := 15) (oi := { dst := some 58, op := _, type := _, pos := _, after := _, guard := _ }) (v := undef) rfl rfl (by kernel_rfl) (by kernel_rfl) (by kernel_rfl) (fun _ _ _ h => h) ⟨Or.inr ⟨by kernel_rfl, rfl⟩, fun _ => rfl⟩ ?_
          try simp only [Act.put, List.setIfInBounds_toArray, List.set_cons_zero, List.set_cons_succ]
          refine wpAnyIn_ready (rs := [16]) (by kernel_rfl) (by simp) ?_
          refine AllReadyIn.cons (o := { dst := some 59, op := _, type := _, pos := _, after := _, guard := _ }) rfl (fun K hK => ?_) AllReadyIn.nil
          rw [if_neg ?hneg]
          case hneg => exact Bool.eq_false_iff.1 (by kernel_rfl)
          refine ⟨fun _ _ => trivial, hK _ _ ?_⟩
          clear hK K
          try simp only [Act.put, List.setIfInBounds_toArray, List.set_cons_zero, List.set_cons_succ]
          refine wpAnyIn_take (i := 17) (oi := { dst := some 60, op := _, type := _, pos := _, after := _, guard := _ }) (v := undef) rfl rfl (by kernel_rfl) (by kernel_rfl) (by kernel_rfl) (fun _ _ _ h => h) ⟨Or.inr ⟨by kernel_rfl, rfl⟩, fun _ => rfl⟩ ?_
          try simp only [Act.put, List.setIfInBounds_toArray, List.set_cons_zero, List.set_cons_succ]
          refine wpAnyIn_take (i := 18) (oi := { dst := some 61, op := _, type := _, pos := _, after := _, guard := _ }) (v := .bool true) rfl rfl (by kernel_rfl) (by kernel_rfl) (by kernel_rfl) (fun _ _ _ h => h) ⟨Or.inl ⟨by kernel_rfl, ?_⟩, fun _ => rfl⟩ ?_
          · intro w; go_simp; try with_reducible rfl
          try simp only [Act.put, List.setIfInBounds_toArray, List.set_cons_zero, List.set_cons_succ]
          refine wpAnyIn_done (by kernel_rfl) ?_ _
          go_wp2_with fail
          refine bodyPost_ret (results_none rfl _ _ _) rfl ?_
          exact ⟨⟨_, rfl⟩, .inr (by first | exact ⟨_, trivial, HX.out⟩ | exact ⟨_, HX.out⟩)⟩
        | true =>
          have HX1 := Lib.hid (HT.out rfl)
          clear HT HF
          have k2 : KeepQ w0.heap.size W1 W2 := (KR.out.trans (KeepQ.gw hws (Gw.refl wr).drew)).trans HX1.out.2
          have g2 : Gw w0 W2 := Below.trans G1.out k2.1
          have KC := Lib.hid (ya_of l N w0 LL J Jx BJ HJ.out HY.out m.s[j].c.e m.s[j].c.ea m.s[j].c.ec EN.out EL.out W2 (seg ++ [x0]) W.heap.size (by rw [List.length_append, List.length_singleton, seg_len SG.out]; have := LB.out; rw [FE.out] at this; simp only [List.length_append, List.length_cons, List.length_nil] at this; omega) g2 HX1.out.1 (k2.ybox BY.out))
          have h7 := (FA.out.grow frGr g2).1 7 _ rfl
          have K2 := Lib.hid k2
          clear c0 c1 c7 cB k2 g2
          refine wpAnyIn_take (i := 7) (oi := { dst := some 50, op := _, type := _, pos := _, after := _, guard := _ }) (v := .bool false) rfl rfl (by kernel_rfl) (by kernel_rfl) (by kernel_rfl) (fun _ _ _ h => h) ⟨Or.inl ⟨by kernel_rfl, ?_⟩, fun _ => rfl⟩ ?_
          · intro w; go_simp; try with_reducible rfl
          try simp only [Act.put, List.setIfInBounds_toArray, List.set_cons_zero, List.set_cons_succ]
          refine wpAnyIn_take (i := 8) (oi := { dst := some 51, op := _, type := _, pos := _, after := _, guard := _ }) (v := .bool false) rfl rfl (by kernel_rfl) (by kernel_rfl) (by kernel_rfl) (fun _ _ _ h => h) ⟨Or.inl ⟨by kernel_rfl, ?_⟩, fun _ => rfl⟩ ?_
          · intro w; go_simp; try with_reducible rfl
          try simp only [Act.put, List.setIfInBounds_toArray, List.set_cons_zero, List.set_cons_succ]
          refine wpAnyIn_take (i := 9) (oi := { dst := some 52, op := _, type := _, pos := _, after := _, guard := _ }) (v := .bool false) rfl rfl (by kernel_rfl) (by kernel_rfl) (by kernel_rfl) (fun _ _ _ h => h) ⟨Or.inl ⟨by kernel_rfl, ?_⟩, fun _ => rfl⟩ ?_
          · intro w; go_simp; try with_reducible rfl
          try simp only [Act.put, List.setIfInBounds_toArray, List.set_cons_zero, List.set_cons_succ]
          refine wpAnyIn_take (i := 10) (oi := { dst := some 53, op := _, type := _, pos := _, after := _, guard := _ }) (v := .func (.func 85) #[] #[.pointer (some ⟨W.heap.size, 0, none⟩)]) rfl rfl (by kernel_rfl) (by kernel_rfl) (by kernel_rfl) (fun _ _ _ h => h) ⟨Or.inl ⟨by kernel_rfl, ?_⟩, fun _ => rfl⟩ ?_
          · intro w; go_simp; try with_reducible rfl
          try simp only [Act.put, List.setIfInBounds_toArray, List.set_cons_zero, List.set_cons_succ]
          refine wpAnyIn_take (i := 11) (oi := { dst := some 54, op := _, type := _, pos := _, after := _, guard := _ }) (v := .pointer (some ⟨b, o + j * 8, none⟩)) rfl rfl (by kernel_rfl) (by kernel_rfl) (by kernel_rfl) (fun _ _ _ h => h) ⟨Or.inl ⟨by kernel_rfl, ?_⟩, fun _ => rfl⟩ ?_
          · intro w; go_simp; try with_reducible rfl
          try simp only [Act.put, List.setIfInBounds_toArray, List.set_cons_zero, List.set_cons_succ]
          refine wpAnyIn_take (i := 12) (oi := { dst := some 55, op := _, type := _, pos := _, after := _, guard := _ }) (v := .pointer (some ⟨b, o + j * 8, none⟩)) rfl rfl (by kernel_rfl) (by kernel_rfl) (by kernel_rfl) (fun _ _ _ h => h) ⟨Or.inl ⟨by kernel_rfl, ?_⟩, fun _ => rfl⟩ ?_
          · intro w; go_simp; try with_reducible rfl
          try simp only [Act.put, List.setIfInBounds_toArray, List.set_cons_zero, List.set_cons_succ]
          refine wpAnyIn_take (i := 13) (oi := { dst := some 56, op := _, type := _, pos := _, after := _, guard := _ }) (v := .pointer (some ⟨b, o + j * 8 + 3, none⟩)) rfl rfl (by kernel_rfl) (by kernel_rfl) (by kernel_rfl) (fun _ _ _ h => h) ⟨Or.inl ⟨by kernel_rfl, ?_⟩, fun _ => rfl⟩ ?_
          · intro w; go_simp; try with_reducible rfl
          try simp only [Act.put, List.setIfInBounds_toArray, List.set_cons_zero, List.set_cons_succ]
          refine wpAnyIn_take (i := 14) (oi := { dst := some 57, op := _, type := _, pos := _, after := _, guard := _ }) (v := .pointer (some ⟨b, o + j * 8 + 3 + 4, none⟩)) rfl rfl (by kernel_rfl) (by kernel_rfl) (by kernel_rfl) (fun _ _ _ h => h) ⟨Or.inl ⟨by kernel_rfl, ?_⟩, fun _ => rfl⟩ ?_
          · intro w; go_simp; try with_reducible rfl
          try simp only [Act.put, List.setIfInBounds_toArray, List.set_cons_zero, List.set_cons_succ]
          refine wpAnyIn_ready (rs := [15]) (by kernel_rfl) (by simp) ?_
          refine AllReadyIn.cons (o := { dst := some 58, op := _, type := _, pos := _, after := _, guard := _ }) rfl (fun K hK => ?_) AllReadyIn.nil
          go_simp
          refine hK _ _ ?_
          clear hK K
          try simp only [Act.put, List.setIfInBounds_toArray, List.set_cons_zero, List.set_cons_succ]
          refine wpAnyIn_ready (rs := [16]) (by kernel_rfl) (by simp) ?_
          refine AllReadyIn.cons (o := { dst := some 59, op := _, type := _, pos := _, after := _, guard := _ }) rfl (fun K hK => ?_) AllReadyIn.nil
          go_simp
          refine ⟨trivial, (callsIn_wide.2 KC.out).mono ?_⟩
          rintro e W3 ⟨r2, rfl, ht, hf⟩
          have HT2 := Lib.hid ht
          have HF2 := Lib.hid hf
          clear ht hf
          refine hK _ _ ?_
          clear hK K
          try simp only [Act.put, List.setIfInBounds_toArray, List.set_cons_zero, List.set_cons_succ]
          refine wpAnyIn_take (i := 17) (oi := { dst := some 60, op := _, type := _, pos := _, after := _, guard := _ }) (v := .bool (!r2)) rfl rfl (by kernel_rfl) (by kernel_rfl) (by kernel_rfl) (fun _ _ _ h => h) ⟨Or.inl ⟨by kernel_rfl, ?_⟩, fun _ => rfl⟩ ?_
          · intro w; go_simp; try with_reducible rfl
          try simp only [Act.put, List.setIfInBounds_toArray, List.set_cons_zero, List.set_cons_succ]
          refine wpAnyIn_take (i := 18) (oi := { dst := some 61, op := _, type := _, pos := _, after := _, guard := _ }) (v := .bool (!r2)) rfl rfl (by kernel_rfl) (by kernel_rfl) (by kernel_rfl) (fun _ _ _ h => h) ⟨Or.inl ⟨by kernel_rfl, ?_⟩, fun _ => rfl⟩ ?_
          · intro w; go_simp; try with_reducible rfl
          try simp only [Act.put, List.setIfInBounds_toArray, List.set_cons_zero, List.set_cons_succ]
          refine wpAnyIn_done (by kernel_rfl) ?_ _
          cases r2 with
          | false =>
            have HX := Lib.hid (HF2.out rfl)
            clear HT2 HF2
            go_wp2_with fail
            refine bodyPost_ret (results_none rfl _ _ _) rfl ?_
            exact ⟨⟨_, rfl⟩, .inr (by obtain ⟨s, hs⟩ := HX.out; first | exact ⟨s, trivial, hs⟩ | exact ⟨s, hs⟩)⟩
          | true =>
            have HX := Lib.hid (HT2.out rfl)
            clear HT2 HF2
            go_wp2_with fail
            go_roundw
            case rel =>
              obtain ⟨sg2, e2, j2, k3⟩ := HX.out
              refine ⟨j + 1, seg ++ [x0] ++ sg2, by omega, by go_num, ?_, j2, K2.out.trans k3⟩
              rw [pl1_succ hlt, FE.out, List.map_append, List.map_append, SG.out, e2, List.map_cons, List.map_nil, HX0.out, List.append_assoc]; rfl
            case measure => simp [intOf]; omega
      have z1 : (m.s[j].k == 1) = false := by simpa using e1
      by_cases e2 : m.s[j].k = 2
      · have z2 : (m.s[j].k == 2) = true := by simpa using e2
        have hfe : frP m.s[j] = m.s[j].v :: m.s[j].c.e := by unfold frP; rw [if_pos (.inr e2)]; rfl
        obtain ⟨x0, hx0⟩ : ∃ x : PlS w0 LL, x.1 = ⟨b, o + j * 8 + 1, m.s[j].v⟩ := ⟨⟨⟨b, o + j * 8 + 1, m.s[j].v⟩, by rw [HLL.out]; exact plcs_s (List.getElem_mem hlt) (by show m.s[j].v ∈ frP m.s[j]; rw [hfe]; exact List.mem_cons_self), FA.out.1 1 _ rfl⟩, rfl⟩
        obtain ⟨fn, tmps, assign, body, hy, hR⟩ := HY.out _ x0 _ JD.out (by rw [seg_len SG.out]; have := LB.out; rw [hfe] at this; simp only [List.length_append, List.length_cons, List.length_nil] at this; omega)
        rw [hx0] at hy
        simp only [encP] at hy
        have HR := Lib.hid hR
        have HX0 := Lib.hid hx0
        have FE := Lib.hid hfe
        clear hR hx0 hfe
        clear e1 e2
        go_upto_region 8 with (fail)
        refine (wpIn_wide (n := 5)).1 ?_
        refine wpIn_region_any hmx ?_
        change wpAnyIn _ _ _ _ _ _ _ _ _ (World.drew _)
        refine wpAnyIn_take (i := 0) (oi := { dst := some 43, op := _, type := _, pos := _, after := _, guard := _ }) (v := .bool true) rfl rfl (by kernel_rfl) (by kernel_rfl) (by kernel_rfl) (fun _ _ _ h => h) ⟨Or.inl ⟨by kernel_rfl, ?_⟩, fun _ => rfl⟩ ?_
        · intro w; go_simp; try with_reducible rfl
        try simp only [Act.put, List.setIfInBounds_toArray, List.set_cons_zero, List.set_cons_succ]
        refine wpAnyIn_take (i := 1) (oi := { dst := some 44, op := _, type := _, pos := _, after := _, guard := _ }) (v := .bool true) rfl rfl (by kernel_rfl) (by kernel_rfl) (by kernel_rfl) (fun _ _ _ h => h) ⟨Or.inl ⟨by kernel_rfl, ?_⟩, fun _ => rfl⟩ ?_
        · intro w; go_simp; try with_reducible rfl
        try simp only [Act.put, List.setIfInBounds_toArray, List.set_cons_zero, List.set_cons_succ]
        refine wpAnyIn_take (i := 3) (oi := { dst := some 46, op := _, type := _, pos := _, after := _, guard := _ }) (v := .pointer (some ⟨b, o + j * 8, none⟩)) rfl rfl (by kernel_rfl) (by kernel_rfl) (by kernel_rfl) (fun _ _ _ h => h) ⟨Or.inl ⟨by kernel_rfl, ?_⟩, fun _ => rfl⟩ ?_
        · intro w; go_simp; try with_reducible rfl
        try simp only [Act.put, List.setIfInBounds_toArray, List.set_cons_zero, List.set_cons_succ]
        refine wpAnyIn_take (i := 4) (oi := { dst := some 47, op := _, type := _, pos := _, after := _, guard := _ }) (v := .pointer (some ⟨b, o + j * 8, none⟩)) rfl rfl (by kernel_rfl) (by kernel_rfl) (by kernel_rfl) (fun _ _ _ h => h) ⟨Or.inl ⟨by kernel_rfl, ?_⟩, fun _ => rfl⟩ ?_
        · intro w; go_simp; try with_reducible rfl
        try simp only [Act.put, List.setIfInBounds_toArray, List.set_cons_zero, List.set_cons_succ]
        refine wpAnyIn_take (i := 5) (oi := { dst := some 48, op := _, type := _, pos := _, after := _, guard := _ }) (v := .pointer (some ⟨b, o + j * 8 + 1, none⟩)) rfl rfl (by kernel_rfl) (by kernel_rfl) (by kernel_rfl) (fun _ _ _ h => h) ⟨Or.inl ⟨by kernel_rfl, ?_⟩, fun _ => rfl⟩ ?_
        · intro w; go_simp; try with_reducible rfl
        try simp only [Act.put, List.setIfInBounds_toArray, List.set_cons_zero, List.set_cons_succ]
        refine wpAnyIn_ready (rs := [2]) (by kernel_rfl) (by simp) ?_
        refine AllReadyIn.cons (o := { dst := some 45, op := _, type := _, pos := _, after := _, guard := _ }) rfl (fun K hK => ?_) AllReadyIn.nil
        go_simp
        refine hK _ _ ?_
        clear hK K
        try simp only [Act.put, List.setIfInBounds_toArray, List.set_cons_zero, List.set_cons_succ]
        refine wpAnyIn_ready (rs := [6]) (by kernel_rfl) (by simp) ?_
        refine AllReadyIn.cons (o := { dst := some 49, op := _, type := _, pos := _, after := _, guard := _ }) rfl (fun K hK => ?_) AllReadyIn.nil
        go_simp
        refine HR.out.mono ?_
        rintro e W2 h
        obtain ⟨r, rfl, ht, hf⟩ := one_way h
        have HT := Lib.hid ht
        have HF := Lib.hid hf
        clear ht hf h hy
        go_simp
        refine hK _ _ ?_
        clear hK K
        try simp only [Act.put, List.setIfInBounds_toArray, List.set_cons_zero, List.set_cons_succ]
        cases r with
        | false =>
          have HX := Lib.hid (HF.out rfl)
          clear HT HF c0 c1 c7 cB q5 qm z1
          refine wpAnyIn_take (i := 7) (oi := { dst := some 50, op := _, type := _, pos := _, after := _, guard := _ }) (v := .bool true) rfl rfl (by kernel_rfl) (by kernel_rfl) (by kernel_rfl) (fun _ _ _ h => h) ⟨Or.inl ⟨by kernel_rfl, ?_⟩, fun _ => rfl⟩ ?_
          · intro w; go_simp; try with_reducible rfl
          try simp only [Act.put, List.setIfInBounds_toArray, List.set_cons_zero, List.set_cons_succ]
          refine wpAnyIn_take (i := 8) (oi := { dst := some 51, op := _, type := _, pos := _, after := _, guard := _ }) (v := .bool true) rfl rfl (by kernel_rfl) (by kernel_rfl) (by kernel_rfl) (fun _ _ _ h => h) ⟨Or.inl ⟨by kernel_rfl, ?_⟩, fun _ => rfl⟩ ?_
          · intro w; go_simp; try with_reducible rfl
          try simp only [Act.put, List.setIfInBounds_toArray, List.set_cons_zero, List.set_cons_succ]
          refine wpAnyIn_take (i := 9) (oi := { dst := some 52, op := _, type := _, pos := _, after := _, guard := _ }) (v := .bool true) rfl rfl (by kernel_rfl) (by kernel_rfl) (by kernel_rfl) (fun _ _ _ h => h) ⟨Or.inl ⟨by kernel_rfl, ?_⟩, fun _ => rfl⟩ ?_
          · intro w; go_simp; try with_reducible rfl
          try simp only [Act.put, List.setIfInBounds_toArray, List.set_cons_zero, List.set_cons_succ]
          refine wpAnyIn_take (i := 10) (oi := { dst := some 53, op := _, type := _, pos := _, after := _, guard := _ }) (v := undef) rfl rfl (by kernel_rfl) (by kernel_rfl) (by kernel_rfl) (fun _ _ _ h => h) ⟨Or.inr ⟨by kernel_rfl, rfl⟩, fun _ => rfl⟩ ?_
          try simp only [Act.put, List.setIfInBounds_toArray, List.set_cons_zero, List.set_cons_succ]
          refine wpAnyIn_take (i := 11) (oi := { dst := some 54, op := _, type := _, pos := _, after := _, guard := _ }) (v := undef) rfl rfl (by kernel_rfl) (by kernel_rfl) (by kernel_rfl) (fun _ _ _ h => h) ⟨Or.inr ⟨by kernel_rfl, rfl⟩, fun _ => rfl⟩ ?_
          try simp only [Act.put, List.setIfInBounds_toArray, List.set_cons_zero, List.set_cons_succ]
          refine wpAnyIn_take (i := 12) (oi := { dst := some 55, op := _, type := _, pos := _, after := _, guard := _ }) (v := undef) rfl rfl (by kernel_rfl) (by kernel_rfl) (by kernel_rfl) (fun _ _ _ h => h) ⟨Or.inr ⟨by kernel_rfl, rfl⟩, fun _ => rfl⟩ ?_
          try simp only [Act.put, List.setIfInBounds_toArray, List.set_cons_zero, List.set_cons_succ]
          refine wpAnyIn_take (i := 13) (oi := { dst := some 56, op := _, type := _, pos := _, after := _, guard := _ }) (v := undef) rfl rfl (by kernel_rfl) (by kernel_rfl) (by kernel_rfl) (fun _ _ _ h => h) ⟨Or.inr ⟨by kernel_rfl, rfl⟩, fun _ => rfl⟩ ?_
          try simp only [Act.put, List.setIfInBounds_toArray, List.set_cons_zero, List.set_cons_succ]
          refine wpAnyIn_take (i := 14) (oi := { dst := some 57, op := _, type := _, pos := _, after := _, guard := _ }) (v := undef) rfl rfl (by kernel_rfl) (by kernel_rfl) (by kernel_rfl) (fun _ _ _ h => h) ⟨Or.inr ⟨by kernel_rfl, rfl⟩, fun _ => rfl⟩ ?_
          try simp only [Act.put, List.setIfInBounds_toArray, List.set_cons_zero, List.set_cons_succ]
          refine wpAnyIn_take (i := 15) (oi := { dst := some 58, op := _, type := _, pos := _, after := _, guard := _ }) (v := undef) rfl rfl (by kernel_rfl) (by kernel_rfl) (by kernel_rfl) (fun _ _ _ h => h) ⟨Or.inr ⟨by kernel_rfl, rfl⟩, fun _ => rfl⟩ ?_
          try simp only [Act.put, List.setIfInBounds_toArray, List.set_cons_zero, List.set_cons_succ]
          refine wpAnyIn_ready (rs := [16]) (by kernel_rfl) (by simp) ?_
          refine AllReadyIn.cons (o := { dst := some 59, op := _, type := _, pos := _, after := _, guard := _ }) rfl (fun K hK => ?_) AllReadyIn.nil
          rw [if_neg ?hneg]
          case hneg => exact Bool.eq_false_iff.1 (by kernel_rfl)
          refine ⟨fun _ _ => trivial, hK _ _ ?_⟩
          clear hK K
          try simp only [Act.put, List.setIfInBounds_toArray, List.set_cons_zero, List.set_cons_succ]
          refine wpAnyIn_take (i := 17) (oi := { dst := some 60, op := _, type := _, pos := _, after := _, guard := _ }) (v := undef) rfl rfl (by kernel_rfl) (by kernel_rfl) (by kernel_rfl) (fun _ _ _ h => h) ⟨Or.inr ⟨by kernel_rfl, rfl⟩, fun _ => rfl⟩ ?_
          try simp only [Act.put, List.setIfInBounds_toArray, List.set_cons_zero, List.set_cons_succ]
          refine wpAnyIn_take (i := 18) (oi := { dst := some 61, op := _, type := _, pos := _, after := _, guard := _ }) (v := .bool true) rfl rfl (by kernel_rfl) (by kernel_rfl) (by kernel_rfl) (fun _ _ _ h => h) ⟨Or.inl ⟨by kernel_rfl, ?_⟩, fun _ => rfl⟩ ?_
          · intro w; go_simp; try with_reducible rfl
          try simp only [Act.put, List.setIfInBounds_toArray, List.set_cons_zero, List.set_cons_succ]
          refine wpAnyIn_done (by kernel_rfl) ?_ _
          go_wp2_with fail
          refine bodyPost_ret (results_none rfl _ _ _) rfl ?_
          exact ⟨⟨_, rfl⟩, .inr (by first | exact ⟨_, trivial, HX.out⟩ | exact ⟨_, HX.out⟩)⟩
        | true =>
          have HX1 := Lib.hid (HT.out rfl)
          clear HT HF
          have k2 : KeepQ w0.heap.size W1 W2 := (KR.out.trans (KeepQ.gw hws (Gw.refl wr).drew)).trans HX1.out.2
          have g2 : Gw w0 W2 := Below.trans G1.out k2.1
          have KC := Lib.hid (ya_of l N w0 LL J Jx BJ HJ.out HY.out m.s[j].c.e m.s[j].c.ea m.s[j].c.ec EN.out EL.out W2 (seg ++ [x0]) W.heap.size (by rw [List.length_append, List.length_singleton, seg_len SG.out]; have := LB.out; rw [FE.out] at this; simp only [List.length_append, List.length_cons, List.length_nil] at this; omega) g2 HX1.out.1 (k2.ybox BY.out))
          have h7 := (FA.out.grow frGr g2).1 7 _ rfl
          have K2 := Lib.hid k2
          clear c0 c1 c7 cB k2 g2
          refine wpAnyIn_take (i := 7) (oi := { dst := some 50, op := _, type := _, pos := _, after := _, guard := _ }) (v := .bool false) rfl rfl (by kernel_rfl) (by kernel_rfl) (by kernel_rfl) (fun _ _ _ h => h) ⟨Or.inl ⟨by kernel_rfl, ?_⟩, fun _ => rfl⟩ ?_
          · intro w; go_simp; try with_reducible rfl
          try simp only [Act.put, List.setIfInBounds_toArray, List.set_cons_zero, List.set_cons_succ]
          refine wpAnyIn_take (i := 8) (oi := { dst := some 51, op := _, type := _, pos := _, after := _, guard := _ }) (v := .bool false) rfl rfl (by kernel_rfl) (by kernel_rfl) (by kernel_rfl) (fun _ _ _ h => h) ⟨Or.inl ⟨by kernel_rfl, ?_⟩, fun _ => rfl⟩ ?_
          · intro w; go_simp; try with_reducible rfl
          try simp only [Act.put, List.setIfInBounds_toArray, List.set_cons_zero, List.set_cons_succ]
          refine wpAnyIn_take (i := 9) (oi := { dst := some 52, op := _, type := _, pos := _, after := _, guard := _ }) (v := .bool false) rfl rfl (by kernel_rfl) (by kernel_rfl) (by kernel_rfl) (fun _ _ _ h => h) ⟨Or.inl ⟨by kernel_rfl, ?_⟩, fun _ => rfl⟩ ?_
          · intro w; go_simp; try with_reducible rfl
          try simp only [Act.put, List.setIfInBounds_toArray, List.set_cons_zero, List.set_cons_succ]
          refine wpAnyIn_take (i := 10) (oi := { dst := some 53, op := _, type := _, pos := _, after := _, guard := _ }) (v := .func (.func 85) #[] #[.pointer (some ⟨W.heap.size, 0, none⟩)]) rfl rfl (by kernel_rfl) (by kernel_rfl) (by kernel_rfl) (fun _ _ _ h => h) ⟨Or.inl ⟨by kernel_rfl, ?_⟩, fun _ => rfl⟩ ?_
          · intro w; go_simp; try with_reducible rfl
          try simp only [Act.put, List.setIfInBounds_toArray, List.set_cons_zero, List.set_cons_succ]
          refine wpAnyIn_take (i := 11) (oi := { dst := some 54, op := _, type := _, pos := _, after := _, guard := _ }) (v := .pointer (some ⟨b, o + j * 8, none⟩)) rfl rfl (by kernel_rfl) (by kernel_rfl) (by kernel_rfl) (fun _ _ _ h => h) ⟨Or.inl ⟨by kernel_rfl, ?_⟩, fun _ => rfl⟩ ?_
          · intro w; go_simp; try with_reducible rfl
          try simp only [Act.put, List.setIfInBounds_toArray, List.set_cons_zero, List.set_cons_succ]
          refine wpAnyIn_take (i := 12) (oi := { dst := some 55, op := _, type := _, pos := _, after := _, guard := _ }) (v := .pointer (some ⟨b, o + j * 8, none⟩)) rfl rfl (by kernel_rfl) (by kernel_rfl) (by kernel_rfl) (fun _ _ _ h => h) ⟨Or.inl ⟨by kernel_rfl, ?_⟩, fun _ => rfl⟩ ?_
          · intro w; go_simp; try with_reducible rfl
          try simp only [Act.put, List.setIfInBounds_toArray, List.set_cons_zero, List.set_cons_succ]
          refine wpAnyIn_take (i := 13) (oi := { dst := some 56, op := _, type := _, pos := _, after := _, guard := _ }) (v := .pointer (some ⟨b, o + j * 8 + 3, none⟩)) rfl rfl (by kernel_rfl) (by kernel_rfl) (by kernel_rfl) (fun _ _ _ h => h) ⟨Or.inl ⟨by kernel_rfl, ?_⟩, fun _ => rfl⟩ ?_
          · intro w; go_simp; try with_reducible rfl
          try simp only [Act.put, List.setIfInBounds_toArray, List.set_cons_zero, List.set_cons_succ]
          refine wpAnyIn_take (i := 14) (oi := { dst := some 57, op := _, type := _, pos := _, after := _, guard := _ }) (v := .pointer (some ⟨b, o + j * 8 + 3 + 4, none⟩)) rfl rfl (by kernel_rfl) (by kernel_rfl) (by kernel_rfl) (fun _ _ _ h => h) ⟨Or.inl ⟨by kernel_rfl, ?_⟩, fun _ => rfl⟩ ?_
          · intro w; go_simp; try with_reducible rfl
          try simp only [Act.put, List.setIfInBounds_toArray, List.set_cons_zero, List.set_cons_succ]
          refine wpAnyIn_ready (rs := [15]) (by kernel_rfl) (by simp) ?_
          refine AllReadyIn.cons (o := { dst := some 58, op := _, type := _, pos := _, after := _, guard := _ }) rfl (fun K hK => ?_) AllReadyIn.nil
          go_simp
          refine hK _ _ ?_
          clear hK K
          try simp only [Act.put, List.setIfInBounds_toArray, List.set_cons_zero, List.set_cons_succ]
          refine wpAnyIn_ready (rs := [16]) (by kernel_rfl) (by simp) ?_
          refine AllReadyIn.cons (o := { dst := some 59, op := _, type := _, pos := _, after := _, guard := _ }) rfl (fun K hK => ?_) AllReadyIn.nil
          go_simp
          refine ⟨trivial, (callsIn_wide.2 KC.out).mono ?_⟩
          rintro e W3 ⟨r2, rfl, ht, hf⟩
          have HT2 := Lib.hid ht
          have HF2 := Lib.hid hf
          clear ht hf
          refine hK _ _ ?_
          clear hK K
          try simp only [Act.put, List.setIfInBounds_toArray, List.set_cons_zero, List.set_cons_succ]
          refine wpAnyIn_take (i := 17) (oi := { dst := some 60, op := _, type := _, pos := _, after := _, guard := _ }) (v := .bool (!r2)) rfl rfl (by kernel_rfl) (by kernel_rfl) (by kernel_rfl) (fun _ _ _ h => h) ⟨Or.inl ⟨by kernel_rfl, ?_⟩, fun _ => rfl⟩ ?_
          · intro w; go_simp; try with_reducible rfl
          try simp only [Act.put, List.setIfInBounds_toArray, List.set_cons_zero, List.set_cons_succ]
          refine wpAnyIn_take (i := 18) (oi := { dst := some 61, op := _, type := _, pos := _, after := _, guard := _ }) (v := .bool (!r2)) rfl rfl (by kernel_rfl) (by kernel_rfl) (by kernel_rfl) (fun _ _ _ h => h) ⟨Or.inl ⟨by kernel_rfl, ?_⟩, fun _ => rfl⟩ ?_
          · intro w; go_simp; try with_reducible rfl
          try simp only [Act.put, List.setIfInBounds_toArray, List.set_cons_zero, List.set_cons_succ]
          refine wpAnyIn_done (by kernel_rfl) ?_ _
          cases r2 with
          | false =>
            have HX := Lib.hid (HF2.out rfl)
            clear HT2 HF2
            go_wp2_with fail
            refine bodyPost_ret (results_none rfl _ _ _) rfl ?_
            exact ⟨⟨_, rfl⟩, .inr (by obtain ⟨s, hs⟩ := HX.out; first | exact ⟨s, trivial, hs⟩ | exact ⟨s, hs⟩)⟩
          | true =>
            have HX := Lib.hid (HT2.out rfl)
            clear HT2 HF2
            go_wp2_with fail
            go_roundw
            case rel =>
              obtain ⟨sg2, e2, j2, k3⟩ := HX.out
              refine ⟨j + 1, seg ++ [x0] ++ sg2, by omega, by go_num, ?_, j2, K2.out.trans k3⟩
              rw [pl1_succ hlt, FE.out, List.map_append, List.map_append, SG.out, e2, List.map_cons, List.map_nil, HX0.out, List.append_assoc]; rfl
            case measure => simp [intOf]; omega
      have z2 : (m.s[j].k == 2) = false := by simpa using e2
      have FE := Lib.hid (show frP m.s[j] = [] ++ m.s[j].c.e by unfold frP; rw [if_neg (by omega)])
      clear e1 e2
      go_upto_region 8 with (fail)
      refine (wpIn_wide (n := 5)).1 ?_
      refine wpIn_region_any hmx ?_
      change wpAnyIn _ _ _ _ _ _ _ _ _ (World.drew _)
      refine wpAnyIn_take (i := 0) (oi := { dst := some 43, op := _, type := _, pos := _, after := _, guard := _ }) (v := .bool false) rfl rfl (by kernel_rfl) (by kernel_rfl) (by kernel_rfl) (fun _ _ _ h => h) ⟨Or.inl ⟨by kernel_rfl, ?_⟩, fun _ => rfl⟩ ?_
      · intro w; go_simp; try with_reducible rfl
      try simp only [Act.put, List.setIfInBounds_toArray, List.set_cons_zero, List.set_cons_succ]
      refine wpAnyIn_take (i := 1) (oi := { dst := some 44, op := _, type := _, pos := _, after := _, guard := _ }) (v := .bool false) rfl rfl (by kernel_rfl) (by kernel_rfl) (by kernel_rfl) (fun _ _ _ h => h) ⟨Or.inl ⟨by kernel_rfl, ?_⟩, fun _ => rfl⟩ ?_
      · intro w; go_simp; try with_reducible rfl
      try simp only [Act.put, List.setIfInBounds_toArray, List.set_cons_zero, List.set_cons_succ]
      refine wpAnyIn_take (i := 2) (oi := { dst := some 45, op := _, type := _, pos := _, after := _, guard := _ }) (v := undef) rfl rfl (by kernel_rfl) (by kernel_rfl) (by kernel_rfl) (fun _ _ _ h => h) ⟨Or.inr ⟨by kernel_rfl, rfl⟩, fun _ => rfl⟩ ?_
      try simp only [Act.put, List.setIfInBounds_toArray, List.set_cons_zero, List.set_cons_succ]
      refine wpAnyIn_take (i := 3) (oi := { dst := some 46, op := _, type := _, pos := _, after := _, guard := _ }) (v := undef) rfl rfl (by kernel_rfl) (by kernel_rfl) (by kernel_rfl) (fun _ _ _ h => h) ⟨Or.inr ⟨by kernel_rfl, rfl⟩, fun _ => rfl⟩ ?_
      try simp only [Act.put, List.setIfInBounds_toArray, List.set_cons_zero, List.set_cons_succ]
      refine wpAnyIn_take (i := 4) (oi := { dst := some 47, op := _, type := _, pos := _, after := _, guard := _ }) (v := undef) rfl rfl (by kernel_rfl) (by kernel_rfl) (by kernel_rfl) (fun _ _ _ h => h) ⟨Or.inr ⟨by kernel_rfl, rfl⟩, fun _ => rfl⟩ ?_
      try simp only [Act.put, List.setIfInBounds_toArray, List.set_cons_zero, List.set_cons_succ]
      refine wpAnyIn_take (i := 5) (oi := { dst := some 48, op := _, type := _, pos := _, after := _, guard := _ }) (v := undef) rfl rfl (by kernel_rfl) (by kernel_rfl) (by kernel_rfl) (fun _ _ _ h => h) ⟨Or.inr ⟨by kernel_rfl, rfl⟩, fun _ => rfl⟩ ?_
      try simp only [Act.put, List.setIfInBounds_toArray, List.set_cons_zero, List.set_cons_succ]
      refine wpAnyIn_ready (rs := [6]) (by kernel_rfl) (by simp) ?_
      refine AllReadyIn.cons (o := { dst := some 49, op := _, type := _, pos := _, after := _, guard := _ }) rfl (fun K hK => ?_) AllReadyIn.nil
      rw [if_neg ?hneg]
      case hneg => exact Bool.eq_false_iff.1 (by kernel_rfl)
      refine ⟨fun _ _ => trivial, hK _ _ ?_⟩
      clear hK K
      try simp only [Act.put, List.setIfInBounds_toArray, List.set_cons_zero, List.set_cons_succ]
      refine wpAnyIn_take (i := 7) (oi := { dst := some 50, op := _, type := _, pos := _, after := _, guard := _ }) (v := undef) rfl rfl (by kernel_rfl) (by kernel_rfl) (by kernel_rfl) (fun _ _ _ h => h) ⟨Or.inr ⟨by kernel_rfl, rfl⟩, fun _ => rfl⟩ ?_
      try simp only [Act.put, List.setIfInBounds_toArray, List.set_cons_zero, List.set_cons_succ]
      have gd : Gw w0 wr.drew := (Below.trans G1.out KR.out.1).drew
      have kd : KeepQ w0.heap.size W1 wr.drew := KR.out.trans (KeepQ.gw hws (Gw.refl wr).drew)
      have KC := Lib.hid (ya_of l N w0 LL J Jx BJ HJ.out HY.out m.s[j].c.e m.s[j].c.ea m.s[j].c.ec EN.out EL.out wr.drew seg W.heap.size (by rw [seg_len SG.out]; have := LB.out; rw [FE.out] at this; simp only [List.length_append, List.length_cons, List.length_nil] at this; omega) gd JD.out (kd.ybox BY.out))
      have h7 := c7
      have KD := Lib.hid kd
      clear c0 c1 cB gd kd
      refine wpAnyIn_take (i := 8) (oi := { dst := some 51, op := _, type := _, pos := _, after := _, guard := _ }) (v := .bool false) rfl rfl (by kernel_rfl) (by kernel_rfl) (by kernel_rfl) (fun _ _ _ h => h) ⟨Or.inl ⟨by kernel_rfl, ?_⟩, fun _ => rfl⟩ ?_
      · intro w; go_simp; try with_reducible rfl
      try simp only [Act.put, List.setIfInBounds_toArray, List.set_cons_zero, List.set_cons_succ]
      refine wpAnyIn_take (i := 9) (oi := { dst := some 52, op := _, type := _, pos := _, after := _, guard := _ }) (v := .bool false) rfl rfl (by kernel_rfl) (by kernel_rfl) (by kernel_rfl) (fun _ _ _ h => h) ⟨Or.inl ⟨by kernel_rfl, ?_⟩, fun _ => rfl⟩ ?_
      · intro w; go_simp; try with_reducible rfl
      try simp only [Act.put, List.setIfInBounds_toArray, List.set_cons_zero, List.set_cons_succ]
      refine wpAnyIn_take (i := 10) (oi := { dst := some 53, op := _, type := _, pos := _, after := _, guard := _ }) (v := .func (.func 85) #[] #[.pointer (some ⟨W.heap.size, 0, none⟩)]) rfl rfl (by kernel_rfl) (by kernel_rfl) (by kernel_rfl) (fun _ _ _ h => h) ⟨Or.inl ⟨by kernel_rfl, ?_⟩, fun _ => rfl⟩ ?_
      · intro w; go_simp; try with_reducible rfl
      try simp only [Act.put, List.setIfInBounds_toArray, List.set_cons_zero, List.set_cons_succ]
      refine wpAnyIn_take (i := 11) (oi := { dst := some 54, op := _, type := _, pos := _, after := _, guard := _ }) (v := .pointer (some ⟨b, o + j * 8, none⟩)) rfl rfl (by kernel_rfl) (by kernel_rfl) (by kernel_rfl) (fun _ _ _ h => h) ⟨Or.inl ⟨by kernel_rfl, ?_⟩, fun _ => rfl⟩ ?_
      · intro w; go_simp; try with_reducible rfl
      try simp only [Act.put, List.setIfInBounds_toArray, List.set_cons_zero, List.set_cons_succ]
      refine wpAnyIn_take (i := 12) (oi := { dst := some 55, op := _, type := _, pos := _, after := _, guard := _ }) (v := .pointer (some ⟨b, o + j * 8, none⟩)) rfl rfl (by kernel_rfl) (by kernel_rfl) (by kernel_rfl) (fun _ _ _ h => h) ⟨Or.inl ⟨by kernel_rfl, ?_⟩, fun _ => rfl⟩ ?_
      · intro w; go_simp; try with_reducible rfl
      try simp only [Act.put, List.setIfInBounds_toArray, List.set_cons_zero, List.set_cons_succ]
      refine wpAnyIn_take (i := 13) (oi := { dst := some 56, op := _, type := _, pos := _, after := _, guard := _ }) (v := .pointer (some ⟨b, o + j * 8 + 3, none⟩)) rfl rfl (by kernel_rfl) (by kernel_rfl) (by kernel_rfl) (fun _ _ _ h => h) ⟨Or.inl ⟨by kernel_rfl, ?_⟩, fun _ => rfl⟩ ?_
      · intro w; go_simp; try with_reducible rfl
      try simp only [Act.put, List.setIfInBounds_toArray, List.set_cons_zero, List.set_cons_succ]
      refine wpAnyIn_take (i := 14) (oi := { dst := some 57, op := _, type := _, pos := _, after := _, guard := _ }) (v := .pointer (some ⟨b, o + j * 8 + 3 + 4, none⟩)) rfl rfl (by kernel_rfl) (by kernel_rfl) (by kernel_rfl) (fun _ _ _ h => h) ⟨Or.inl ⟨by kernel_rfl, ?_⟩, fun _ => rfl⟩ ?_
      · intro w; go_simp; try with_reducible rfl
      try simp only [Act.put, List.setIfInBounds_toArray, List.set_cons_zero, List.set_cons_succ]
      refine wpAnyIn_ready (rs := [15]) (by kernel_rfl) (by simp) ?_
      refine AllReadyIn.cons (o := { dst := some 58, op := _, type := _, pos := _, after := _, guard := _ }) rfl (fun K hK => ?_) AllReadyIn.nil
      go_simp
      refine hK _ _ ?_
      clear hK K
      try simp only [Act.put, List.setIfInBounds_toArray, List.set_cons_zero, List.set_cons_succ]
      refine wpAnyIn_ready (rs := [16]) (by kernel_rfl) (by simp) ?_
      refine AllReadyIn.cons (o := { dst := some 59, op := _, type := _, pos := _, after := _, guard := _ }) rfl (fun K hK => ?_) AllReadyIn.nil
      go_simp
      refine ⟨trivial, (callsIn_wide.2 KC.out).mono ?_⟩
      rintro e W3 ⟨r2, rfl, ht, hf⟩
      have HT2 := Lib.hid ht
      have HF2 := Lib.hid hf
      clear ht hf
      refine hK _ _ ?_
      clear hK K
      try simp only [Act.put, List.setIfInBounds_toArray, List.set_cons_zero, List.set_cons_succ]
      refine wpAnyIn_take (i := 17) (oi := { dst := some 60, op := _, type := _, pos := _, after := _, guard := _ }) (v := .bool (!r2)) rfl rfl (by kernel_rfl) (by kernel_rfl) (by kernel_rfl) (fun _ _ _ h => h) ⟨Or.inl ⟨by kernel_rfl, ?_⟩, fun _ => rfl⟩ ?_
      · intro w; go_simp; try with_reducible rfl
      try simp only [Act.put, List.setIfInBounds_toArray, List.set_cons_zero, List.set_cons_succ]
      refine wpAnyIn_take (i := 18) (oi := { dst := some 61, op := _, type := _, pos := _, after := _, guard := _ }) (v := .bool (!r2)) rfl rfl (by kernel_rfl) (by kernel_rfl) (by kernel_rfl) (fun _ _ _ h => h) ⟨Or.inl ⟨by kernel_rfl, ?_⟩, fun _ => rfl⟩ ?_
      · intro w; go_simp; try with_reducible rfl
      try simp only [Act.put, List.setIfInBounds_toArray, List.set_cons_zero, List.set_cons_succ]
      refine wpAnyIn_done (by kernel_rfl) ?_ _
      cases r2 with
      | false =>
        have HX := Lib.hid (HF2.out rfl)
        clear HT2 HF2
        go_wp2_with fail
        refine bodyPost_ret (results_none rfl _ _ _) rfl ?_
        exact ⟨⟨_, rfl⟩, .inr (by obtain ⟨s, hs⟩ := HX.out; first | exact ⟨s, trivial, hs⟩ | exact ⟨s, hs⟩)⟩
      | true =>
        have HX := Lib.hid (HT2.out rfl)
        clear HT2 HF2
        go_wp2_with fail
        go_roundw
        case rel =>
          obtain ⟨sg2, e2, j2, k3⟩ := HX.out
          refine ⟨j + 1, seg ++ sg2, by omega, by go_num, ?_, j2, KD.out.trans k3⟩
          rw [pl1_succ hlt, FE.out, List.map_append, SG.out, e2]; try rfl
        case measure => simp [intOf]; omega
    · obtain rfl : j = m.s.length := by omega
      have q6 := (HX.out.grow ndGr hgr).1 6 _ rfl
      clear hgr hKr q5
      go_wp2_with fail
      clear q6 qm
      go_loopw [68] (fun i wr => ∃ (j : Nat) (seg : List (PlS w0 LL)), j ≤ m.h.length ∧ i = .int .i64 j ∧ seg.map (fun x => x.1.v) = pl2 m j ∧ J seg wr ∧ KeepQ w0.heap.size W1 wr) (fun i _ => m.h.length - (intOf i).toNat)
      case atStart => exact ⟨0, seg, Nat.zero_le _, rfl, by rw [SG.out, pl1_all], JR.out, KR.out⟩
      case round =>
        clear SG JR KR JD hws hlt
        obtain ⟨j, seg, hj, rfl, hsg, hJr, hKr⟩ := hrel
        have SG := Lib.hid hsg
        have JR := Lib.hid hJr
        have KR := Lib.hid hKr
        have hgr : Gw w0 wr := Below.trans G1.out hKr.1
        have q6 := (HX.out.grow ndGr hgr).1 6 _ rfl
        have qm := HBL.out _ _ G1.out CM.out hKr
        clear hsg hJr
        by_cases hlt : j < m.h.length
        · obtain ⟨b, o, ha, hk⟩ := gAt.row HX.out.2.2.2 j hlt
          have c5 := (hk.grow thGr hgr).1 5 _ rfl
          have KC := Lib.hid (ya_of l N w0 LL J Jx BJ HJ.out HY.out m.h[j].c.e m.h[j].c.ea m.h[j].c.ec (show numSl w0 m.h[j].c.ea m.h[j].c.ec m.h[j].c.e from hk.2.2) (fun v hv => by rw [HLL.out]; exact plcs_h (List.getElem_mem hlt) hv) wr seg W.heap.size (by rw [seg_len SG.out, ← List.length_append, ← pl2_succ hlt, HN.out, HLL.out]; exact pl2_le m (j + 1)) hgr JR.out (hKr.ybox BY.out))
          have r0 : (0 : Int) ≤ j := by omega
          have r1 : (j : Int) < m.h.length := by omega
          rw [ha] at q6
          clear hk ha hgr hKr
          go_wp2_with fail
          refine KC.out.mono ?_
          rintro e W2 ⟨r, rfl, ht, hf⟩
          have HT := Lib.hid ht
          have HF := Lib.hid hf
          clear ht hf c5 q6 qm
          cases r with
          | false =>
            have HXx := Lib.hid (HF.out rfl)
            clear HT HF
            go_wp2_with fail
            refine bodyPost_ret (results_none rfl _ _ _) rfl ?_
            exact ⟨⟨_, rfl⟩, .inr (by obtain ⟨s, hs⟩ := HXx.out; first | exact ⟨s, trivial, hs⟩ | exact ⟨s, hs⟩)⟩
          | true =>
            have HXx := Lib.hid (HT.out rfl)
            clear HT HF
            go_wp2_with fail
            go_roundw
            case rel =>
              obtain ⟨sg2, e2, j2, k3⟩ := HXx.out
              refine ⟨j + 1, seg ++ sg2, by omega, by go_num, ?_, j2, KR.out.trans k3⟩
              rw [pl2_succ hlt, List.map_append, SG.out, e2]
            case measure => simp [intOf]; omega
        · obtain rfl : j = m.h.length := by omega
          clear hgr hKr q6 qm
          go_wp2_with fail
          go_end0
          exact ⟨⟨_, rfl⟩, .inl ⟨seg, by rw [SG.out, pl2_all], JR.out⟩⟩

/-- The closure of addressPlaces, ranged over. -/
theorem ap_stops (n : Nat) (hn : 1 ≤ n) (Bm bn : Nat) (m : LNd) (w0 w : World) (hBs : Bm < w0.heap.size) (hc : w.cell? ⟨Bm, 0, none⟩ = some (.pointer (some ⟨bn, 0, none⟩))) (hx : ndAt w0 bn 0 m) (hb : Gw w0 w) :
    SeqStopsK Fence.wide n Tryd.prog 84 #[.pointer (some ⟨Bm, 0, none⟩)] (fun x : PlS w0 (plcs m) => encP x.1) (KeepQ w0.heap.size)
      (fun ys => ys.map (fun x => x.1.v) = plcs m) (fun _ => True) (plcs m).length w := fun l J Jx W hW hJ hJx hY h0 => by
  refine callsIn_wide.2 ?_
  exact ap_of l (plcs m).length w0 (plcs m) J Jx W.heap.size hJ (fun pre x W1 h1 h2 => yieldAt_any rfl 4 (hY pre x W1 h1 h2)) m bn hx rfl rfl W Bm ((hW.cell (p := ⟨Bm, 0, none⟩) (Nat.lt_of_lt_of_le hBs hb.size)).trans hc) hBs (hb.trans hW) h0

theorem impl_addressPlaces (b o : Nat) (w : World) : Calls Tryd.prog 42 #[.pointer (some ⟨b, o, none⟩)] w fun e w' =>
    e = .returned (.func (.func 84) #[] #[.pointer (some ⟨w.heap.size, 0, none⟩)]) ∧ w' = w.alloc (.cells #[.pointer (some ⟨b, o, none⟩)] 68) := by
  go_enter Tryd.func42, Tryd.ntmps42
  go_wp2_with fail
  go_ret
  exact ⟨rfl, rfl⟩

end Go.Proofs.YtkpbiifikkbaeaaDoor.Con
