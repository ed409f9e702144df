/-
  Contracts of the program's yieldCores and coreNodes: they hand out the nodes of a core term with their places, in the order of a walk. Condition: the core term lies in memory.
-/
import Derived.RangeFuncNested
import Derived.RangeFuncBound
import Derived.RangeFuncCalls
import Derived.RangeFuncLeaves
import Derived.Shelf.Abstract
import Derived.Shelf.RegionOpen
import Derived.WalkKit
import Derived.OwnWalkIn
import Derived.TacticsInMore
import Derived.LoopNIn
import Derived.LoopIn
import Derived.Sort.CutIn
import Derived.Deep.RegionHeld3
import Derived.OrdersIn
import Derived.Test.YtkpbiifikkbaeaaDoorCoIt
import Derived.Test.YtkpbiifikkbaeaaDoorAnyL
namespace Go.Proofs.YtkpbiifikkbaeaaDoor.Con
open Go.RowKit
set_option linter.unusedVariables false
attribute [local go_sem] Oper.semAt_some

theorem room_none {F : Fence} (hd : F.depth = none) (k : Nat) : F.room k := fun d h => by rw [hd] at h; cases h
/-- Where no depth is asked the figures are all one. -/
theorem roundIn_any {F : Fence} (hd : F.depth = none) {m m' : Nat} {P : Program} {l : Nat} {f : FuncId} {tmps : Array Value} {assign body : Code} {w : World} {R : Ending → World → Prop}
    (h : RoundIn F m P l f tmps assign body w R) : RoundIn F m' P l f tmps assign body w R := ⟨h.1, fun c cs _ => h.2 c cs (room_none hd _)⟩
theorem yieldAt_any {F : Fence} (hd : F.depth = none) {m : Nat} (m' : Nat) {P : Program} {l : Nat} {args : Array Value} {W : World} {R : Ending → World → Prop} (h : YieldAt F m P l args W R) : YieldAt F m' P l args W R := by
  obtain ⟨fn, tmps, assign, body, hy, hR⟩ := h
  exact ⟨fn, tmps, assign, body, hy, roundIn_any hd hR⟩

theorem keeps_of_gw {B : Nat} {W W' : World} (h : Gw W W') : KeepsFrom B W W' :=
  ⟨h.size, fun k o _ hk _ => (h.block k (Array.getElem?_eq_some_iff.1 hk).1).trans hk⟩

theorem gw_grown {X Y : World} (g : Gw X Y) : X.grownBy Y none := ⟨g.os, g.tape, g.output, g.size, fun x hx _ => g.block x hx⟩
theorem abides_gw {β : Type} {B : Nat} {J : β → World → Prop} (h : AbidesFrom B J) {s : β} {X Y : World} (hs : J s X) (g : Gw X Y) : J s Y := h s X Y none hs (gw_grown g) (fun r e => by cases e)

/-- What lies below n0 is as it was, and so are all boxes of places and of yields. -/
def KeepP (n0 : Nat) (W W' : World) : Prop := Below n0 W W' ∧ ∀ (b : Nat) (cs : Array Value) (e : TypeId) (fr : Nat × Nat), W.heap[b]? = some (Obj.cells cs e fr) → (e = 146 ∨ e = 120) → W'.heap[b]? = W.heap[b]?
theorem KeepP.trans {n0 : Nat} {A B C : World} (h : KeepP n0 A B) (k : KeepP n0 B C) : KeepP n0 A C := ⟨h.1.trans k.1, fun b cs e fr eq ht => (k.2 b cs e fr ((h.2 b cs e fr eq ht).trans eq) ht).trans (h.2 b cs e fr eq ht)⟩
theorem KeepP.gw {n0 : Nat} {A B : World} (hn : n0 ≤ A.heap.size) (g : Gw A B) : KeepP n0 A B := ⟨g.mono hn, fun b cs e fr eq _ => g.block b (Array.getElem?_eq_some_iff.1 eq).1⟩
theorem keepP_b {n0 : Nat} {w : World} (hn : n0 ≤ w.heap.size) (W : World) (l : Nat) (o o' : Obj) (hl : w.heap.size ≤ l) (h : W.heap[l]? = some o) (h1 : o.isCells = false) (h2 : o.isWalk = false) : KeepP n0 W (W.putObj l o') :=
  ⟨belowK_b hn W l o o' hl h h1 h2, fun b cs e fr eq _ => World.putObj_heap_other (fun e' => by subst e'; rw [h] at eq; cases eq; cases h1)⟩
theorem KeepP.box {n0 b bd lv : Nat} {A B : World} (h : KeepP n0 A B) (k : BoxP A b bd lv) : BoxP B b bd lv := (h.2 b _ _ _ k (.inl rfl)).trans k
theorem KeepP.ybox {n0 b : Nat} {A B : World} {v : Value} (h : KeepP n0 A B) (k : Boxed A b 120 v) : Boxed B b 120 v := (h.2 b _ _ _ k (.inr rfl)).trans k
/-- A store into a box of another type. -/
theorem KeepP.set {n0 b : Nat} {W : World} {t : TypeId} {v : Value} (h : Boxed W b t v) (hb : n0 ≤ b) (h1 : t ≠ 146) (h2 : t ≠ 120) (u : Value) : KeepP n0 W (W.setCell ⟨b, 0, none⟩ u) :=
  ⟨(Below.refl n0 W).setCell (p := ⟨b, 0, none⟩) hb u, fun b' cs e fr eq ht => Below.heap_setCell _ _ _ _ (fun e' => by
    have e' : b' = b := e'
    subst e'
    rw [show W.heap[b']? = _ from h] at eq
    cases eq
    rcases ht with ht | ht
    · exact h1 ht
    · exact h2 ht)⟩

/-- A node that lies in w0. -/
def okN (w0 : World) (LL : List NodeK) (x : NodeK) : Prop := x ∈ LL ∧ coAt w0 x.b x.o x.u ∧ x.bd ≤ 100000 ∧ x.lv ≤ 100000
abbrev NodeS (w0 : World) (LL : List NodeK) : Type := { x : NodeK // okN w0 LL x }
def encN (x : NodeK) : Array Value := #[.pointer (some ⟨x.b, x.o, none⟩), .agg #[.int .i64 x.bd, .int .i64 x.lv]]

def YPost (w0 : World) (LL : List NodeK) (J Jx : List (NodeS w0 LL) → World → Prop) (pre : List (NodeS w0 LL)) (u : LK) (b o bd lv : Nat) (W : World) (e : Ending) (W' : World) : Prop :=
  ∃ r : Bool, e = .returned (.bool r) ∧ (r = true → ∃ seg : List (NodeS w0 LL), seg.map (·.1) = nodesK u b o bd lv ∧ J (pre ++ seg) W' ∧ KeepP w0.heap.size W W') ∧ (r = false → ∃ s, Jx s W')
def YC (l N : Nat) (w0 : World) (LL : List NodeK) (J Jx : List (NodeS w0 LL) → World → Prop) (u : LK) : Prop := ∀ (W : World) (b o bd lv : Nat) (pre : List (NodeS w0 LL)), coAt w0 b o u → (∀ x ∈ nodesK u b o bd lv, x ∈ LL) → bd + u.co.dp ≤ 100000 → lv + u.co.dp ≤ 100000 → pre.length + u.co.nn ≤ N → Gw w0 W → J pre W →
  Calls Tryd.prog 118 #[.pointer (some ⟨b, o, none⟩), .agg #[.int .i64 bd, .int .i64 lv], .func (.yield l) #[] #[]] W (YPost w0 LL J Jx pre u b o bd lv W)

set_option maxRecDepth 100000 in
set_option maxHeartbeats 4000000 in
theorem yc_of (l N : Nat) (w0 : World) (LL : List NodeK) (J Jx : List (NodeS w0 LL) → World → Prop) (BJ : Nat) (hJ : AbidesFrom BJ J)
    (hY : ∀ pre x W1, J pre W1 → pre.length < N → YieldAt Fence.wide 4 Tryd.prog l (encN x.1) W1 fun e W' => (e = .returned (.bool true) ∧ J (pre ++ [x]) W' ∧ KeepP w0.heap.size W1 W') ∨ (e = .returned (.bool false) ∧ Jx (pre ++ [x]) W'))
    (u : LK) (ih : ∀ t ∈ u.ks, YC l N w0 LL J Jx t) : YC l N w0 LL J Jx u := by
  intro W b o bd lv pre hu hLL hbd hlv hN g0 hpre
  have HLL := Lib.hid hLL
  have HU := Lib.hid hu
  have HJ := Lib.hid hJ
  have hdp := u.co.dp_pos
  have hnn := u.co.nn_pos
  have hll : u.ks.length ≤ 9223372036854775807 := hu.2.kl
  obtain ⟨x0, hx0⟩ : ∃ x : NodeS w0 LL, x.1 = ⟨b, o, u, bd, lv⟩ := ⟨⟨⟨b, o, u, bd, lv⟩, hLL _ (by rw [nodesK_eq]; exact List.mem_cons_self), hu, by show bd ≤ 100000; omega, by show lv ≤ 100000; omega⟩, rfl⟩
  have gA : Gw W (W.alloc (.cells #[.int .i64 bd, .int .i64 lv] 146)) := (Gw.refl W).alloc _
  have P0 : BoxP (W.alloc (.cells #[.int .i64 bd, .int .i64 lv] 146)) W.heap.size bd lv := heap_alloc_new W _
  have hJ1 := abides_gw hJ hpre gA
  have YA := hY pre x0 _ hJ1 (by omega)
  rw [hx0] at YA
  have HX0 := Lib.hid hx0
  have GA := Lib.hid gA
  have G0 := Lib.hid g0
  have P1 := Lib.hid P0
  clear hu hJ hY hpre g0 hJ1 hLL
  go_enter Tryd.func118, Tryd.ntmps118
  go_upto_region 1 with (fail)
  have hs : W.heap.size < (W.alloc (.cells #[.int .i64 bd, .int .i64 lv] 146)).heap.size := by simp
  generalize W.alloc (.cells #[.int .i64 bd, .int .i64 lv] 146) = W1 at *
  obtain ⟨a0, a1⟩ := P0.c
  obtain ⟨fn, tmps, assign, body, hy, hR⟩ := YA
  simp only [encN] at hy
  have HR := Lib.hid hR
  clear hR gA P0
  refine (wpIn_wide (n := 5)).1 ?_
  gi_wp2
  refine HR.out.mono ?_
  rintro e W2 (⟨rfl, hJ2, hk2⟩ | ⟨rfl, hx2⟩)
  rotate_left
  · have HX := Lib.hid hx2
    clear hx2 a0 a1 HR
    gi_wp2
    go_wp2_with fail
    go_ret
    exact ⟨false, rfl, (fun h => (by cases h)), fun _ => ⟨_, HX.out⟩⟩
  have g02 : Gw w0 W2 := Below.trans (G0.out.trans GA.out) hk2.1
  have PB := Lib.hid (hk2.box P1.out)
  have G2 := Lib.hid g02
  have K2 := Lib.hid (show KeepP w0.heap.size W W2 from (KeepP.gw G0.out.size GA.out).trans hk2)
  have J2 := Lib.hid hJ2
  obtain ⟨p0, p1, p2, p3⟩ := (HU.out.grow g02).c
  clear hJ2 hk2 g02 a0 a1 HR hy
  gi_wp2
  go_wp2_with fail
  clear p0 p1 p2 p3
  have hmx : Tryd.prog.follows .mixedOrders = true := by kernel_rfl
  go_loopw [18] (fun i wr => ∃ (j : Nat) (segs : List (NodeS w0 LL)), j ≤ u.ks.length ∧ i = .int .i64 j ∧ segs.map (·.1) = kidsK u bd lv j ∧ J ((pre ++ [x0]) ++ segs) wr ∧ KeepP w0.heap.size W wr ∧ BoxP wr W.heap.size bd lv ∧ Gw w0 wr) (fun i _ => u.ks.length - (intOf i).toNat)
  case atStart => exact ⟨0, [], Nat.zero_le _, rfl, rfl, by rw [List.append_nil]; exact J2.out, K2.out, PB.out, G2.out⟩
  case round =>
    obtain ⟨j, segs, hj, rfl, hsg, hJr, hKr, hBr, hGr⟩ := hrel
    have SG := Lib.hid hsg
    have JR := Lib.hid hJr
    have KR := Lib.hid hKr
    have BR := Lib.hid hBr
    have GR := Lib.hid hGr
    clear hsg hJr hKr hBr hGr K2 PB G2 J2
    by_cases hlt : j < u.ks.length
    · obtain ⟨bk, ok, ha, hkid⟩ := coAt.kid HU.out.2.kids j hlt
      have HK := Lib.hid hkid
      have HA := Lib.hid ha
      have r0 : (0 : Int) ≤ j := by omega
      have r1 : (j : Int) < u.ks.length := by omega
      have KS := Lib.hid (kidsK_succ u bd lv j hlt)
      have hd2 : u.ks[j].co.dp ≤ u.co.dp - 1 := by
        have := cdps_ge (ks := u.co.ks) (t := u.ks[j].co) (by rw [LK.co_ks]; exact List.mem_map_of_mem (List.getElem_mem hlt))
        rw [Co.dp_eq u.co]; omega
      have hn2 : segs.length + u.ks[j].co.nn + 1 ≤ u.co.nn := by
        have h1 : segs.length = (kidsK u bd lv j).length := by rw [← SG.out]; simp
        have h2 := kidsK_len u bd lv (j + 1) (by omega)
        have h3 := kidsK_len u bd lv j (by omega)
        have h4 := cnns_take u.co.ks j (by rw [u.co_len]; exact hlt)
        have h5 := cnns_take_le u.co.ks (j + 1)
        rw [u.co_kid j hlt] at h4
        rw [Co.nn_eq u.co]
        omega
      have e1 := bndK_le u.k j
      have e2 := bxK_le u.k
      have KO := Lib.hid (impl_ofKid u wr.drew b o j bd lv (by omega) (by omega) (by omega) (HU.out.grow (GR.out.drew)))
      have KY := Lib.hid (fun X (g : Gw wr X) => ih u.ks[j] (List.getElem_mem hlt) X bk (ok + j * 4) (bd + bndK u.k j) (lv + bxK u.k) ((pre ++ [x0]) ++ segs) HK.out (fun x hx => HLL.out x (by rw [nodesK_eq]; refine List.mem_cons_of_mem _ (mem_kidsK.2 ⟨j, hlt, ?_⟩); rw [List.getD, List.getElem?_eq_getElem hlt, HA.out]; exact hx)) (by omega) (by omega) (by simp only [List.length_append, List.length_cons, List.length_nil]; omega) (GR.out.trans g) (abides_gw HJ.out JR.out g))
      obtain ⟨bdk, hbdk⟩ : ∃ x, x = bd + bndK u.k j := ⟨_, rfl⟩
      obtain ⟨lvk, hlvk⟩ : ∃ x, x = lv + bxK u.k := ⟨_, rfl⟩
      rw [← hbdk, ← hlvk] at KO KY
      have HBD := Lib.hid (And.intro hbdk hlvk)
      clear hkid ha hbdk hlvk e1 e2 hd2 hn2
      go_upto_region 6 with (fail)
      obtain ⟨S, hS⟩ : ∃ S : Array Bool → World → Prop, S = fun L X => L.getD 11 true = false → X.cell? ⟨b, o + 3, none⟩ = some (.slice (some ⟨bk, ok, none⟩) u.ks.length u.cap) ∧ X.cell? ⟨W.heap.size, 0, none⟩ = some (.int .i64 bd) ∧ X.cell? ⟨W.heap.size, 1, none⟩ = some (.int .i64 lv) := ⟨_, rfl⟩
      have hind : ∀ i, i ≠ 11 → ∀ L X, S (L.setIfInBounds i true) X ↔ S L X := fun i hi L X => by rw [hS]; simp only; rw [getD_set_ne true hi]
      have HS := Lib.hid hS
      have HIND := Lib.hid hind
      have SGW := Lib.hid (show ∀ L X X', S L X → Gw X X' → S L X' from fun L X X' h g => by
        rw [hS] at h ⊢
        intro hL
        obtain ⟨c0, c1, c2⟩ := h hL
        exact ⟨g.cell c0 (cell_lt c0), g.cell c1 (cell_lt c1), g.cell c2 (cell_lt c2)⟩)
      have s0 : S (Array.replicate 13 false) wr.drew := by
        rw [hS]
        intro _
        obtain ⟨p0, p1, p2, p3⟩ := (HU.out.grow GR.out).c
        rw [HA.out] at p3
        obtain ⟨q0, q1⟩ := BR.out.c
        exact ⟨p3, q0, q1⟩
      clear hind hS
      refine any_plain (S := S) hmx ?_
      refine anyL_take (i := 0) (oi := { dst := some 21, op := _, type := _, pos := _, after := _, guard := _ }) (v := .pointer (some ⟨b, o, none⟩)) rfl (by kernel_rfl) (by kernel_rfl) (by kernel_rfl) (fun _ _ _ h => h) (HIND.out 0 (by decide)) (fun _ => True) (fun _ _ _ _ _ _ => trivial) trivial (Or.inl ⟨by rfl, ?hy0⟩) s0 ?rest0
      case hy0 =>
        rintro X _
        go_simp
      have s1 := (HIND.out 0 (by decide) _ _).2 s0
      clear s0
      try simp only [Act.put, List.setIfInBounds_toArray, List.set_cons_zero, List.set_cons_succ]
      refine anyL_take (i := 1) (oi := { dst := some 22, op := _, type := _, pos := _, after := _, guard := _ }) (v := .pointer (some ⟨b, o, none⟩)) rfl (by kernel_rfl) (by kernel_rfl) (by kernel_rfl) (fun _ _ _ h => h) (HIND.out 1 (by decide)) (fun _ => True) (fun _ _ _ _ _ _ => trivial) trivial (Or.inl ⟨by rfl, ?hy1⟩) s1 ?rest1
      case hy1 =>
        rintro X _
        go_simp
      have s2 := (HIND.out 1 (by decide) _ _).2 s1
      clear s1
      try simp only [Act.put, List.setIfInBounds_toArray, List.set_cons_zero, List.set_cons_succ]
      refine anyL_take (i := 2) (oi := { dst := some 23, op := _, type := _, pos := _, after := _, guard := _ }) (v := .pointer (some ⟨b, o + 3, none⟩)) rfl (by kernel_rfl) (by kernel_rfl) (by kernel_rfl) (fun _ _ _ h => h) (HIND.out 2 (by decide)) (fun _ => True) (fun _ _ _ _ _ _ => trivial) trivial (Or.inl ⟨by rfl, ?hy2⟩) s2 ?rest2
      case hy2 =>
        rintro X _
        go_simp
      have s3 := (HIND.out 2 (by decide) _ _).2 s2
      clear s2
      try simp only [Act.put, List.setIfInBounds_toArray, List.set_cons_zero, List.set_cons_succ]
      refine anyL_take (i := 3) (oi := { dst := some 24, op := _, type := _, pos := _, after := _, guard := _ }) (v := .slice (some ⟨bk, ok, none⟩) u.ks.length u.cap) rfl (by kernel_rfl) (by kernel_rfl) (by kernel_rfl) (fun _ _ _ h => h) (HIND.out 3 (by decide)) (fun L => L.getD 5 true = false ∧ L.getD 11 true = false) ?hG3 ⟨rfl, rfl⟩ (Or.inl ⟨by rfl, ?hy3⟩) s3 ?rest3
      case hG3 =>
        rintro L jj ⟨h8, h9⟩ hi hj hne
        obtain ⟨g1, _⟩ := mem_ready.1 hi
        obtain ⟨g2, oj, hoj, hall⟩ := mem_ready.1 hj
        have n8 : jj ≠ 5 := fun e => by
          subst e
          cases hoj
          exact getD_clash g1 (hall { on := 3, ground := .data } (by simp) (by rfl))
        have n9 : jj ≠ 11 := fun e => by
          subst e
          cases hoj
          exact getD_clash h8 (hall { on := 5, ground := .data } (by simp) (by rfl))
        exact ⟨(getD_set_ne true n8).trans h8, (getD_set_ne true n9).trans h9⟩
      case hy3 =>
        rintro X ⟨L, ⟨_, h9⟩, h⟩
        rw [HS.out] at h
        obtain ⟨c0, c1, c2⟩ := h h9
        clear h
        go_simp
      have s4 := (HIND.out 3 (by decide) _ _).2 s3
      clear s3
      try simp only [Act.put, List.setIfInBounds_toArray, List.set_cons_zero, List.set_cons_succ]
      refine anyL_take (i := 4) (oi := { dst := some 25, op := _, type := _, pos := _, after := _, guard := _ }) (v := .int .i64 j) rfl (by kernel_rfl) (by kernel_rfl) (by kernel_rfl) (fun _ _ _ h => h) (HIND.out 4 (by decide)) (fun _ => True) (fun _ _ _ _ _ _ => trivial) trivial (Or.inl ⟨by rfl, ?hy4⟩) s4 ?rest4
      case hy4 =>
        rintro X _
        go_simp
      have s5 := (HIND.out 4 (by decide) _ _).2 s4
      clear s4
      try simp only [Act.put, List.setIfInBounds_toArray, List.set_cons_zero, List.set_cons_succ]
      refine anyL_take (i := 5) (oi := { dst := some 26, op := _, type := _, pos := _, after := _, guard := _ }) (v := .pointer (some ⟨bk, ok + j * 4, none⟩)) rfl (by kernel_rfl) (by kernel_rfl) (by kernel_rfl) (fun _ _ _ h => h) (HIND.out 5 (by decide)) (fun _ => True) (fun _ _ _ _ _ _ => trivial) trivial (Or.inl ⟨by rfl, ?hy5⟩) s5 ?rest5
      case hy5 =>
        rintro X _
        go_simp
      have s6 := (HIND.out 5 (by decide) _ _).2 s5
      clear s5
      try simp only [Act.put, List.setIfInBounds_toArray, List.set_cons_zero, List.set_cons_succ]
      refine anyL_take (i := 6) (oi := { dst := some 27, op := _, type := _, pos := _, after := _, guard := _ }) (v := .agg #[.int .i64 bd, .int .i64 lv]) rfl (by kernel_rfl) (by kernel_rfl) (by kernel_rfl) (fun _ _ _ h => h) (HIND.out 6 (by decide)) (fun L => L.getD 9 true = false ∧ L.getD 11 true = false) ?hG6 ⟨rfl, rfl⟩ (Or.inl ⟨by rfl, ?hy6⟩) s6 ?rest6
      case hG6 =>
        rintro L jj ⟨h8, h9⟩ hi hj hne
        obtain ⟨g1, _⟩ := mem_ready.1 hi
        obtain ⟨g2, oj, hoj, hall⟩ := mem_ready.1 hj
        have n8 : jj ≠ 9 := fun e => by
          subst e
          cases hoj
          exact getD_clash g1 (hall { on := 6, ground := .data } (by simp) (by rfl))
        have n9 : jj ≠ 11 := fun e => by
          subst e
          cases hoj
          exact getD_clash h8 (hall { on := 9, ground := .data } (by simp) (by rfl))
        exact ⟨(getD_set_ne true n8).trans h8, (getD_set_ne true n9).trans h9⟩
      case hy6 =>
        rintro X ⟨L, ⟨_, h9⟩, h⟩
        rw [HS.out] at h
        obtain ⟨c0, c1, c2⟩ := h h9
        clear h
        go_simp
      have s7 := (HIND.out 6 (by decide) _ _).2 s6
      clear s6
      try simp only [Act.put, List.setIfInBounds_toArray, List.set_cons_zero, List.set_cons_succ]
      refine anyL_take (i := 7) (oi := { dst := some 28, op := _, type := _, pos := _, after := _, guard := _ }) (v := .pointer (some ⟨b, o, none⟩)) rfl (by kernel_rfl) (by kernel_rfl) (by kernel_rfl) (fun _ _ _ h => h) (HIND.out 7 (by decide)) (fun _ => True) (fun _ _ _ _ _ _ => trivial) trivial (Or.inl ⟨by rfl, ?hy7⟩) s7 ?rest7
      case hy7 =>
        rintro X _
        go_simp
      have s8 := (HIND.out 7 (by decide) _ _).2 s7
      clear s7
      try simp only [Act.put, List.setIfInBounds_toArray, List.set_cons_zero, List.set_cons_succ]
      refine anyL_take (i := 8) (oi := { dst := some 29, op := _, type := _, pos := _, after := _, guard := _ }) (v := .int .i64 j) rfl (by kernel_rfl) (by kernel_rfl) (by kernel_rfl) (fun _ _ _ h => h) (HIND.out 8 (by decide)) (fun _ => True) (fun _ _ _ _ _ _ => trivial) trivial (Or.inl ⟨by rfl, ?hy8⟩) s8 ?rest8
      case hy8 =>
        rintro X _
        go_simp
      have s9 := (HIND.out 8 (by decide) _ _).2 s8
      clear s8
      try simp only [Act.put, List.setIfInBounds_toArray, List.set_cons_zero, List.set_cons_succ]
      refine anyL_take (i := 10) (oi := { dst := some 31, op := _, type := _, pos := _, after := _, guard := _ }) (v := .func (.yield l) #[] #[]) rfl (by kernel_rfl) (by kernel_rfl) (by kernel_rfl) (fun _ _ _ h => h) (HIND.out 10 (by decide)) (fun _ => True) (fun _ _ _ _ _ _ => trivial) trivial (Or.inl ⟨by rfl, ?hy10⟩) s9 ?rest10
      case hy10 =>
        rintro X _
        go_simp
      have s10 := (HIND.out 10 (by decide) _ _).2 s9
      clear s9
      try simp only [Act.put, List.setIfInBounds_toArray, List.set_cons_zero, List.set_cons_succ]
      refine anyL_step (i := 9) (o := { dst := some 30, op := _, type := _, pos := _, after := _, guard := _ }) rfl (by kernel_rfl) (by rfl) (fun K hK => ?_)
      go_simp
      refine KO.out.mono ?_
      rintro e X1 ⟨rfl, g1⟩
      refine hK.out _ _ ((HIND.out 9 (by decide) _ _).2 (SGW.out _ _ _ s10 g1)) ?_
      clear hK K s10
      have GX := Lib.hid (show Gw wr X1 from (Gw.refl wr).drew.trans g1)
      clear g1
      try simp only [Act.put, List.setIfInBounds_toArray, List.set_cons_zero, List.set_cons_succ]
      refine anyL_step (i := 11) (o := { dst := some 32, op := _, type := _, pos := _, after := _, guard := _ }) rfl (by kernel_rfl) (by rfl) (fun K hK => ?_)
      go_simp
      refine (KY.out X1 GX.out).mono ?_
      rintro e X2 ⟨r, rfl, ht, hf⟩
      have HTr := Lib.hid ht
      have HFa := Lib.hid hf
      refine hK.out _ _ (by rw [HS.out]; exact fun h => (by cases h)) ?_
      clear hK K ht hf
      try simp only [Act.put, List.setIfInBounds_toArray, List.set_cons_zero, List.set_cons_succ]
      refine anyL_step (i := 12) (o := { dst := some 33, op := _, type := _, pos := _, after := _, guard := _ }) rfl (by kernel_rfl) (by rfl) (fun K hK => ?_)
      go_simp
      refine hK.out _ _ (by rw [HS.out]; exact fun h => (by cases h)) ?_
      clear hK K
      refine anyL_done (by kernel_rfl) ?_ _
      try simp only [Act.put, List.setIfInBounds_toArray, List.set_cons_zero, List.set_cons_succ]
      cases r with
      | false =>
        have HX := Lib.hid (HFa.out rfl)
        clear HTr HFa
        go_wp2_with fail
        go_ret
        exact ⟨false, rfl, (fun h => (by cases h)), fun _ => HX.out⟩
      | true =>
        have HX := Lib.hid (HTr.out rfl)
        clear HTr HFa
        go_wp2_with fail
        go_roundw
        case rel =>
          obtain ⟨seg, h1, h2, h3⟩ := HX.out
          obtain ⟨e1, e2⟩ := HBD.out
          have k2 : KeepP w0.heap.size W X2 := (KR.out.trans (KeepP.gw GR.out.size GX.out)).trans h3
          refine ⟨j + 1, segs ++ seg, by omega, by go_num, ?_, by rw [← List.append_assoc]; exact h2, k2, h3.box (BR.out.grow GX.out), Below.trans (GR.out.trans GX.out) h3.1⟩
          rw [List.map_append, SG.out, h1, KS.out, HA.out, e1, e2]; rfl
        case measure => simp [intOf]; omega
    · obtain rfl : j = u.ks.length := by omega
      have F := Lib.hid (nodesK_eq u b o bd lv)
      go_wp2_with fail
      go_ret
      exact ⟨true, rfl, (fun _ => ⟨x0 :: segs, by rw [List.map_cons, SG.out, HX0.out, F.out], by have := JR.out; rwa [List.append_assoc] at this, KR.out⟩), fun h => (by cases h)⟩

theorem yc_all (l N : Nat) (w0 : World) (LL : List NodeK) (J Jx : List (NodeS w0 LL) → World → Prop) (BJ : Nat) (hJ : AbidesFrom BJ J)
    (hY : ∀ pre x W1, J pre W1 → pre.length < N → YieldAt Fence.wide 4 Tryd.prog l (encN x.1) W1 fun e W' => (e = .returned (.bool true) ∧ J (pre ++ [x]) W' ∧ KeepP w0.heap.size W1 W') ∨ (e = .returned (.bool false) ∧ Jx (pre ++ [x]) W'))
    (u : LK) : YC l N w0 LL J Jx u := by
  refine LK.ind (P := YC l N w0 LL J Jx) (fun k v da dc ds a cap ks ih => ?_) u
  exact yc_of l N w0 LL J Jx BJ hJ hY (.mk k v da dc ds a cap ks) ih

/-- The closure of coreNodes, ranged over. -/
theorem cn_stops (n : Nat) (hn : 1 ≤ n) (Bs : Nat) (b o : Nat) (u : LK) (w0 w : World) (hBs : Bs < w.heap.size) (hc : w.cell? ⟨Bs, 0, none⟩ = some (.pointer (some ⟨b, o, none⟩))) (hu : coAt w0 b o u) (hd : u.co.dp ≤ 1000) (hb : Gw w0 w) :
    SeqStopsK Fence.wide n Tryd.prog 117 #[.pointer (some ⟨Bs, 0, none⟩)] (fun x : NodeS w0 (nodesK u b o 0 0) => encN x.1) (KeepP w0.heap.size)
      (fun ys => ys.map (·.1) = nodesK u b o 0 0) (fun _ => True) u.co.nn w := fun l J Jx W hW hJ hJx hY h0 => by
  have key := yc_all l u.co.nn w0 (nodesK u b o 0 0) J Jx W.heap.size hJ (fun pre x W1 h1 h2 => yieldAt_any rfl 4 (hY pre x W1 h1 h2)) u W b o 0 0 [] hu (fun x hx => hx) (by omega) (by omega) (by simp) (hb.trans hW) h0
  have KEY := Lib.hid key
  have c0 : W.cell? ⟨Bs, 0, none⟩ = some (.pointer (some ⟨b, o, none⟩)) := (hW.cell (p := ⟨Bs, 0, none⟩) hBs).trans hc
  clear key hu hJ hJx hY h0 hb hW hc
  refine callsIn_wide.2 ?_
  show Calls Tryd.prog 117 #[.func (.yield l) #[] #[], .pointer (some ⟨Bs, 0, none⟩)] W _
  go_enter Tryd.func117, Tryd.ntmps117
  go_wp2_with fail
  refine KEY.out.mono ?_
  rintro e W2 ⟨r, rfl, ht, hf⟩
  have HT := Lib.hid ht
  have HF := Lib.hid hf
  clear ht hf
  go_wp2_with fail
  go_end0
  refine ⟨⟨_, rfl⟩, ?_⟩
  cases r with
  | true =>
    obtain ⟨seg, h1, h2, h3⟩ := HT.out rfl
    exact .inl ⟨seg, h1, h2⟩
  | false =>
    obtain ⟨s, hs⟩ := HF.out rfl
    exact .inr ⟨s, trivial, hs⟩

theorem impl_coreNodes (b o : Nat) (w : World) : Calls Tryd.prog 108 #[.pointer (some ⟨b, o, none⟩)] w fun e w' =>
    e = .returned (.func (.func 117) #[] #[.pointer (some ⟨w.heap.size, 0, none⟩)]) ∧ w' = w.alloc (.cells #[.pointer (some ⟨b, o, none⟩)] 98) := by
  go_enter Tryd.func108, Tryd.ntmps108
  go_wp2_with fail
  go_ret
  exact ⟨rfl, rfl⟩

end Go.Proofs.YtkpbiifikkbaeaaDoor.Con
