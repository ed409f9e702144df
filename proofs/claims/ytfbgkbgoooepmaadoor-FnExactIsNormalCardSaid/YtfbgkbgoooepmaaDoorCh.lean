/-
  What a redex is contracted to, as a function on terms without addresses; contracts of the model's l06R, l06N, l06C, l06A and l08Chosen. Condition: the core terms lie in memory.
  Contract of the model's l08Chosen. Condition: the node that is chosen at and the fields lie in memory, and the node fits its kind.
-/
import Derived.Test.YtfbgkbgoooepmaaDoorRd
import Derived.Test.YtfbgkbgoooepmaaDoorCoIm
import Derived.Test.YtfbgkbgoooepmaaDoorCoAp
namespace Go.Proofs.YtfbgkbgoooepmaaDoor.Con
open Go.RowKit
set_option linter.unusedVariables false
attribute [local go_sem ↓] Go.wp_at_zero Go.wp_at_succ

/-- A term that lies in blocks of A and in new ones. -/
def ShrP (w : World) (A : Nat → Prop) (t : Co) (e : Ending) (w' : World) : Prop := ∃ x : LK, e = .returned x.val ∧ x.Ok w' ∧ x.co = t ∧ (∀ y ∈ x.bl, w.heap.size ≤ y ∨ A y) ∧ Gw w w'
theorem leaf_bl (k v : Int) : (LK.mk k v none 0 [] none 0 []).bl = [] := by rw [LK.bl_eq]; rfl
theorem ok_far {w w' : World} {x : LK} (h : x.Ok w) (hf : ∀ y ∈ x.bl, w'.heap[y]? = w.heap[y]?) : x.Ok w' := coFr _ _ _ h hf
theorem leaf_ok (w : World) (k v : Int) (hk : cin64 k) (hv : cin64 v) : (LK.mk k v none 0 [] none 0 []).Ok w :=
  (LK.ok_iff _).2 ⟨⟨hk, hv, Nat.le_refl _, Nat.zero_le _, .inl rfl⟩, Nat.le_refl _, Nat.zero_le _, .inl rfl⟩
theorem leaf_co (k v : Int) : (LK.mk k v none 0 [] none 0 []).co = .mk k v [] [] := by rw [LK.co_eq]; rfl

theorem spec_leafR (v : Int) (w : World) (hv : cin64 v) : Calls Tryd.prog 136 #[.int .i64 v] w (ShrP w (fun _ => False) (.mk 11 v [] [])) := by
  have HV := Lib.hid hv
  have hR := heap_alloc_new w (.cells #[.int .i64 0, .int .i64 0, .slice none 0 0, .slice none 0 0] 30)
  have GR := Lib.hid ((Gw.refl w).alloc (.cells #[.int .i64 0, .int .i64 0, .slice none 0 0, .slice none 0 0] 30))
  have HR := Lib.hid hR
  clear hv hR
  go_enter Tryd.func136, Tryd.ntmps136
  go_upto_region 1 with (fail)
  generalize w.alloc (.cells #[.int .i64 0, .int .i64 0, .slice none 0 0, .slice none 0 0] 30) = w1 at *
  obtain ⟨r0, r1, r2, r3, rf0, rf1, rf2, rf3⟩ := zero_atP HR.out
  go_wp2_with fail
  refine bodyPost_ret (v := (LK.mk 11 v none 0 [] none 0 []).val) (by simp [results, Tryd.results136, go_sem, r0, r1, r2, r3]; try exact ⟨rfl, rfl, ⟨rfl, rfl, rfl⟩, rfl, rfl, rfl⟩) rfl ⟨_, rfl, leaf_ok _ _ _ (by unfold cin64; omega) HV.out, leaf_co _ _, (fun y hy => by rw [leaf_bl] at hy; cases hy), by_fourP GR.out⟩
theorem spec_leafN (v : Int) (w : World) (hv : cin64 v) : Calls Tryd.prog 125 #[.int .i64 v] w (ShrP w (fun _ => False) (.mk 2 v [] [])) := by
  have HV := Lib.hid hv
  have hR := heap_alloc_new w (.cells #[.int .i64 0, .int .i64 0, .slice none 0 0, .slice none 0 0] 30)
  have GR := Lib.hid ((Gw.refl w).alloc (.cells #[.int .i64 0, .int .i64 0, .slice none 0 0, .slice none 0 0] 30))
  have HR := Lib.hid hR
  clear hv hR
  go_enter Tryd.func125, Tryd.ntmps125
  go_upto_region 1 with (fail)
  generalize w.alloc (.cells #[.int .i64 0, .int .i64 0, .slice none 0 0, .slice none 0 0] 30) = w1 at *
  obtain ⟨r0, r1, r2, r3, rf0, rf1, rf2, rf3⟩ := zero_atP HR.out
  go_wp2_with fail
  refine bodyPost_ret (v := (LK.mk 2 v none 0 [] none 0 []).val) (by simp [results, Tryd.results125, go_sem, r0, r1, r2, r3]; try exact ⟨rfl, rfl, ⟨rfl, rfl, rfl⟩, rfl, rfl, rfl⟩) rfl ⟨_, rfl, leaf_ok _ _ _ (by unfold cin64; omega) HV.out, leaf_co _ _, (fun y hy => by rw [leaf_bl] at hy; cases hy), by_fourP GR.out⟩
theorem spec_nodeC (k v : Int) (a : Option Addr) (cap : Nat) (ks : List LK) (w : World) (hk : cin64 k) (hv : cin64 v) (h : coSl w a cap ks) : Calls Tryd.prog 140 #[.int .i64 k, .int .i64 v, .slice a ks.length cap] w (fun e w' => e = .returned (LK.mk k v none 0 [] a cap ks).val ∧ (LK.mk k v none 0 [] a cap ks).Ok w' ∧ Gw w w') := by
  have HV := Lib.hid (And.intro hk hv)
  have HKS := Lib.hid h
  have hR := heap_alloc_new w (.cells #[.int .i64 0, .int .i64 0, .slice none 0 0, .slice none 0 0] 30)
  have GR := Lib.hid ((Gw.refl w).alloc (.cells #[.int .i64 0, .int .i64 0, .slice none 0 0, .slice none 0 0] 30))
  have HR := Lib.hid hR
  clear hk hv hR h
  go_enter Tryd.func140, Tryd.ntmps140
  go_upto_region 1 with (fail)
  generalize w.alloc (.cells #[.int .i64 0, .int .i64 0, .slice none 0 0, .slice none 0 0] 30) = w1 at *
  obtain ⟨r0, r1, r2, r3, rf0, rf1, rf2, rf3⟩ := zero_atP HR.out
  go_wp2_with fail
  have G4 := by_fourP (w := w) (w2 := w1) GR.out (x0 := .int .i64 k) (x1 := .int .i64 v) (x2 := .slice none 0 0) (x3 := .slice a ks.length cap)
  refine bodyPost_ret (v := (LK.mk k v none 0 [] a cap ks).val) (by simp [results, Tryd.results140, go_sem, r0, r1, r2, r3]; try exact ⟨rfl, rfl, ⟨rfl, rfl, rfl⟩, rfl, rfl, rfl⟩) rfl ⟨rfl, (LK.ok_iff _).2 ⟨⟨HV.out.1, HV.out.2, Nat.le_refl _, Nat.zero_le _, .inl rfl⟩, gSl.grow coLen coGr HKS.out G4⟩, G4⟩

/-- A row of two. -/
theorem row_two {w : World} {a b : LK} {g : Nat} {e : TypeId} (ha : a.Ok w) (hb : b.Ok w) (hg : w.heap[g]? = some (.cells #[.int .i64 a.k, .int .i64 a.v, .slice a.da a.ds.length a.dc, .slice a.a a.ks.length a.cap, .int .i64 b.k, .int .i64 b.v, .slice b.da b.ds.length b.dc, .slice b.a b.ks.length b.cap] e (0, 0))) : coSl w (some ⟨g, 0, none⟩) 2 [a, b] := by
  refine ⟨Nat.le_refl _, by decide, .inr ⟨g, 0, rfl, fun i hi => ?_⟩⟩
  match i, hi with
  | 0, _ =>
    refine ⟨fun j v hv => ?_, ha⟩
    have hj : j < 4 := by have := (List.getElem?_eq_some_iff.1 hv).1; rwa [coLen] at this
    rw [cell_of_row _ _ _ _ _ _ hg]
    match j, hj with
    | 0, _ => exact hv
    | 1, _ => exact hv
    | 2, _ => exact hv
    | 3, _ => exact hv
  | 1, _ =>
    refine ⟨fun j v hv => ?_, hb⟩
    have hj : j < 4 := by have := (List.getElem?_eq_some_iff.1 hv).1; rwa [coLen] at this
    rw [cell_of_row _ _ _ _ _ _ hg]
    match j, hj with
    | 0, _ => exact hv
    | 1, _ => exact hv
    | 2, _ => exact hv
    | 3, _ => exact hv

set_option maxRecDepth 100000 in
theorem spec_appA (a b : LK) (w : World) (ha : a.Ok w) (hb : b.Ok w) : Calls Tryd.prog 137 #[a.val, b.val] w (ShrP w (fun y => y ∈ a.bl ∨ y ∈ b.bl) (.mk 5 0 [] [a.co, b.co])) := by
  have gA : Gw w (((w.alloc (a.obj 30)).alloc (b.obj 30)).alloc (.cells #[.int .i64 0, .int .i64 0, .slice none 0 0, .slice none 0 0] 30)) := (((Gw.refl w).alloc _).alloc _).alloc _
  have BA := ((BoxK.new w a 30).grow ((Gw.refl _).alloc (b.obj 30))).grow ((Gw.refl _).alloc (.cells #[.int .i64 0, .int .i64 0, .slice none 0 0, .slice none 0 0] 30))
  have BB := (BoxK.new (w.alloc (a.obj 30)) b 30).grow ((Gw.refl _).alloc (.cells #[.int .i64 0, .int .i64 0, .slice none 0 0, .slice none 0 0] 30))
  have hR := heap_alloc_new ((w.alloc (a.obj 30)).alloc (b.obj 30)) (.cells #[.int .i64 0, .int .i64 0, .slice none 0 0, .slice none 0 0] 30)
  rw [World.size_alloc] at BB
  rw [World.size_alloc, World.size_alloc] at hR
  have OA := Lib.hid (ha.grow gA)
  have OB := Lib.hid (hb.grow gA)
  have GA := Lib.hid gA
  have HR := Lib.hid hR
  have LA := Lib.hid (And.intro (ok_bl_lt a w ha) (ok_bl_lt b w hb))
  clear ha hb gA hR
  go_enter Tryd.func137, Tryd.ntmps137
  go_upto_region 1 with (fail)
  generalize (((w.alloc (.cells #[.int .i64 a.k, .int .i64 a.v, .slice a.da a.ds.length a.dc, .slice a.a a.ks.length a.cap] 30)).alloc (.cells #[.int .i64 b.k, .int .i64 b.v, .slice b.da b.ds.length b.dc, .slice b.a b.ks.length b.cap] 30)).alloc (.cells #[.int .i64 0, .int .i64 0, .slice none 0 0, .slice none 0 0] 30)) = w1 at *
  obtain ⟨p0, p1, p2, p3⟩ := BA.c
  obtain ⟨q0, q1, q2, q3⟩ := BB.c
  have hrow := heap_alloc_new w1 (.cells #[.int .i64 a.k, .int .i64 a.v, .slice a.da a.ds.length a.dc, .slice a.a a.ks.length a.cap, .int .i64 b.k, .int .i64 b.v, .slice b.da b.ds.length b.dc, .slice b.a b.ks.length b.cap] 30)
  have gB := (Gw.refl w1).alloc (.cells #[.int .i64 a.k, .int .i64 a.v, .slice a.da a.ds.length a.dc, .slice a.a a.ks.length a.cap, .int .i64 b.k, .int .i64 b.v, .slice b.da b.ds.length b.dc, .slice b.a b.ks.length b.cap] 30)
  have KC := Lib.hid (spec_nodeC 5 0 (some ⟨w1.heap.size, 0, none⟩) 2 [a, b] _ (by unfold cin64; omega) (by unfold cin64; omega) (row_two (OA.out.grow gB) (OB.out.grow gB) hrow))
  have GB := Lib.hid gB
  have LR := Lib.hid (Array.getElem?_eq_some_iff.1 HR.out).1
  clear hrow gB
  go_wp2_with fail
  refine KC.out.mono ?_
  rintro e w3 ⟨rfl, hx, g3⟩
  have RX := Lib.hid ((g3.block _ (Nat.lt_of_lt_of_le LR.out GB.out.size)).trans ((GB.out.block _ LR.out).trans HR.out))
  have OX := Lib.hid hx
  have GX := Lib.hid (GA.out.trans (GB.out.trans g3))
  have W1 := Lib.hid (show w.heap.size + 2 < w1.heap.size from LR.out)
  clear hx g3 KC p0 p1 p2 p3 q0 q1 q2 q3 BA BB
  obtain ⟨r0, r1, r2, r3, rf0, rf1, rf2, rf3⟩ := zero_atP RX.out
  go_wp2_with fail
  have hbl : ∀ y ∈ (LK.mk 5 0 none 0 [] (some ⟨w1.heap.size, 0, none⟩) 2 [a, b]).bl, y = w1.heap.size ∨ y ∈ a.bl ∨ y ∈ b.bl := fun y hy => by
    rw [LK.bl_eq] at hy
    have hy' : y ∈ nbl nB none [] ++ nbl LK.bl (some ⟨w1.heap.size, 0, none⟩) [a, b] := hy
    rw [nb_ne (by simp)] at hy'
    simpa [nbl] using hy'
  refine bodyPost_ret (v := (LK.mk 5 0 none 0 [] (some ⟨w1.heap.size, 0, none⟩) 2 [a, b]).val) (by simp [results, Tryd.results137, go_sem, r0, r1, r2, r3]; try exact ⟨rfl, rfl, ⟨rfl, rfl, rfl⟩, rfl, rfl, rfl⟩) rfl ⟨_, rfl, ok_far OX.out fun y hy => ?_, by rw [LK.co_eq]; rfl, fun y hy => ?_, by_fourN (n := 2) GX.out⟩
  · have hne : y ≠ w.heap.size + 2 := by
      rcases hbl y hy with h | h | h
      · have := W1.out; omega
      · have := LA.out.1 y h; omega
      · have := LA.out.2 y h; omega
    rw [Below.heap_setCell _ _ _ _ hne, Below.heap_setCell _ _ _ _ hne, Below.heap_setCell _ _ _ _ hne, Below.heap_setCell _ _ _ _ hne]
  · rcases hbl y hy with h | h | h
    · exact .inl (by have := W1.out; omega)
    · exact .inr (.inl h)
    · exact .inr (.inr h)

end Go.Proofs.YtfbgkbgoooepmaaDoor.Con

namespace Go.Proofs.YtfbgkbgoooepmaaDoor.Con
open Go.RowKit
set_option linter.unusedVariables false
attribute [local go_sem ↓] Go.wp_at_zero Go.wp_at_succ

def appC (a f : Co) : Co := .mk 5 0 [] [a, f]
/-- What a choice is contracted to. -/
def chC (t : Co) (fs : List Co) : Co := if t.k = 10 then .mk 11 (if (t.ks.getD 0 default).v = 0 then t.ds.getD 1 0 else t.ds.getD 0 0) [] [] else fs.foldl appC (.mk 11 (t.ds.getD (t.ks.getD 0 default).v.toNat 0) [] [])
theorem num_at {w : World} {a : Option Addr} {cap : Nat} {ds : List Int} (h : numSl w a cap ds) (i : Nat) (hi : i < ds.length) : ∃ b o, a = some ⟨b, o, none⟩ ∧ w.cell? ⟨b, o + i, none⟩ = some (.int .i64 ds[i]) ∧ cin64 ds[i] := by
  obtain ⟨b, o, e, hr⟩ := h.2.2.resolve_left (fun e => by subst e; simp at hi)
  obtain ⟨h1, h2⟩ := numRow_get hr i hi
  exact ⟨b, o, e, h1, h2⟩
theorem getD_int {l : List Int} {i : Nat} (h : i < l.length) : l.getD i 0 = l[i] := by rw [List.getD, List.getElem?_eq_getElem h]; rfl
theorem ch_len {k v : Int} {ds : List Int} {l : Nat} (h : headC k v ds l = true) (hk : k = 10) : ds.length = 2 := by
  subst hk
  unfold headC at h
  simp only [Bool.and_eq_true] at h
  have h2 := h.2.1
  unfold inV at h2
  simp only [decide_eq_true_eq] at h2
  have e1 : cdLo 10 = 2 := rfl
  have e2 : cdHi 10 = 2 := rfl
  omega

theorem nd_oneV {u : LK} (hl : 0 < u.ks.length) : (u.co.ks.getD 0 default).v = u.ks[0].v := by
  rw [getD_co (show 0 < u.co.ks.length by rw [u.co_len]; exact hl), u.co_kid 0 hl, LK.co_v]
theorem sl_bl_lt {w : World} {a : Option Addr} {cap : Nat} {ks : List LK} (h : coSl w a cap ks) : ∀ y ∈ nbl LK.bl a ks, y < w.heap.size := fun y hy => by
  by_cases hne : ks = []
  · subst hne; simp [nbl] at hy
  · obtain ⟨b, o, rfl, hr⟩ := h.2.2.resolve_left hne
    rw [nb_ne hne] at hy
    have hpos : 0 < ks.length := by cases ks with | nil => exact absurd rfl hne | cons _ _ => simp
    rcases List.mem_cons.1 hy with rfl | hy
    · exact cell_lt ((hr 0 hpos).1 0 _ rfl)
    · obtain ⟨z, hz, hzy⟩ := List.mem_flatMap.1 hy
      obtain ⟨i, hi, rfl⟩ := List.mem_iff_getElem.1 hz
      exact ok_bl_lt _ w (hr i hi).2 y hzy

set_option maxRecDepth 100000 in
set_option maxHeartbeats 4000000 in
theorem spec_chosen (c : LK) (w : World) (bc oc : Nat) (fa : Option Addr) (fcap : Nat) (fs : List LK) (h : coAt w bc oc c) (hh : headC c.k c.v c.ds c.ks.length = true) (hf : coSl w fa fcap fs) (hk : c.k = 10 ∨ (c.k = 9 ∧ 0 ≤ (c.co.ks.getD 0 default).v ∧ (c.co.ks.getD 0 default).v < c.ds.length)) (hfl : fs.length ≤ 1000) : Calls Tryd.prog 127 #[.pointer (some ⟨bc, oc, none⟩), .slice fa fs.length fcap] w (ShrP w (fun y => y ∈ nbl LK.bl fa fs) (chC c.co (fs.map LK.co))) := by
  have HL := Lib.hid (rd_len hh)
  have hl0 : 0 < c.ks.length := HL.out.2.1 (by rcases hk with h | h; exact .inr h; exact .inl h.1)
  have A := Lib.hid h
  have HF := Lib.hid hf
  have gR := (Gw.refl w).alloc (.cells #[.int .i64 0, .int .i64 0, .slice none 0 0, .slice none 0 0] 30)
  have HR := Lib.hid (heap_alloc_new w (.cells #[.int .i64 0, .int .i64 0, .slice none 0 0, .slice none 0 0] 30))
  have A1 := h.grow gR
  obtain ⟨bk, ok, ha, x⟩ := kid_zero A1 hl0
  have KV := nd_oneV hl0
  obtain ⟨zk, hzk⟩ : ∃ z, z = c.ks[0] := ⟨_, rfl⟩
  rw [← hzk] at x KV
  obtain ⟨V0, hV0⟩ : ∃ V, V = zk.v := ⟨_, rfl⟩
  obtain ⟨p0, p1, p2, p3⟩ := A1.c
  obtain ⟨x0, x1, x2, x3⟩ := x.c
  rw [← hV0] at KV x1
  rw [KV] at hk
  rw [ha] at p3
  have GR := Lib.hid gR
  have ix0 : (0 : Int) < c.ks.length := by omega
  have hne0 : ¬ c.ks = [] := fun e => by rw [e] at hl0; simp at hl0
  have CV := Lib.hid KV
  clear hzk
  rcases hk with h10 | ⟨h9, hv0, hv1⟩
  · have c10 : (c.k == 10) = true := by simpa using h10
    have hdl := ch_len hh h10
    obtain ⟨bd, od, hda, d0, dc0⟩ := num_at A1.2.dat 0 (by omega)
    have d1 : ∃ v, (w.alloc (.cells #[.int .i64 0, .int .i64 0, .slice none 0 0, .slice none 0 0] 30)).cell? ⟨bd, od + 1, none⟩ = some (.int .i64 v) ∧ cin64 v ∧ v = c.ds[1] := by
      obtain ⟨bd', od', hda', d1, dc1⟩ := num_at A1.2.dat 1 (by omega)
      rw [hda] at hda'
      injection hda' with e
      injection e with e1 e2
      subst e1 e2
      exact ⟨_, d1, dc1, rfl⟩
    obtain ⟨D1, d1, dc1, hD1⟩ := d1
    obtain ⟨D0, hD0⟩ : ∃ v, v = c.ds[0] := ⟨_, rfl⟩
    rw [← hD0] at d0 dc0
    rw [Nat.add_zero] at d0
    rw [hda] at p2
    have jx0 : (0 : Int) < c.ds.length := by omega
    have jx1 : (1 : Int) < c.ds.length := by omega
    by_cases hv : V0 = 0
    · have F := Lib.hid (show chC c.co (fs.map LK.co) = .mk 11 D1 [] [] by
        unfold chC
        rw [c.co_k, if_pos h10, CV.out, if_pos hv, c.co_ds, getD_int (by omega), hD1])
      have nv : (V0 != 0) = false := by simpa using hv
      have KR := Lib.hid (fun W => spec_leafR D1 W dc1)
      clear hv h10 hD1 hD0 hV0 KV hda x ha A1 h hf hh hl0 hdl dc0 dc1 gR
      go_enter Tryd.func127, Tryd.ntmps127
      go_upto_region 1 with (fail)
      generalize w.alloc (.cells #[.int .i64 0, .int .i64 0, .slice none 0 0, .slice none 0 0] 30) = w1 at *
      go_wp2_with fail
      refine (KR.out _).mono ?_
      rintro e w3 ⟨y, rfl, hy, hyc, hbl, g3⟩
      have LR := (Array.getElem?_eq_some_iff.1 HR.out).1
      have RX := (g3.block _ LR).trans HR.out
      have HY := Lib.hid hy
      have HYC := Lib.hid hyc
      have G3 := Lib.hid (GR.out.trans g3)
      have HB := Lib.hid (show ∀ z ∈ y.bl, w1.heap.size ≤ z from fun z hz => (hbl z hz).elim id (fun e => e.elim))
      have LRR := Lib.hid LR
      clear p0 p1 p2 p3 x0 x1 x2 x3 d0 d1 hy hyc hbl g3 KR LR
      obtain ⟨r0, r1, r2, r3, rf0, rf1, rf2, rf3⟩ := zero_atP RX
      go_wp2_with fail
      refine bodyPost_ret (v := y.val) (by simp [results, Tryd.results127, go_sem, r0, r1, r2, r3]) rfl ⟨y, rfl, ok_far HY.out fun z hz => ?_, by rw [F.out, HYC.out], fun z hz => .inl (by have := HB.out z hz; have := LRR.out; omega), by_fourP G3.out⟩
      have hne : z ≠ w.heap.size := by have := HB.out z hz; have := LRR.out; omega
      rw [Below.heap_setCell _ _ _ _ hne, Below.heap_setCell _ _ _ _ hne, Below.heap_setCell _ _ _ _ hne, Below.heap_setCell _ _ _ _ hne]
    · have F := Lib.hid (show chC c.co (fs.map LK.co) = .mk 11 D0 [] [] by
        unfold chC
        rw [c.co_k, if_pos h10, CV.out, if_neg hv, c.co_ds, getD_int (by omega), hD0])
      have nv : (V0 != 0) = true := by simpa using hv
      have KR := Lib.hid (fun W => spec_leafR D0 W dc0)
      clear hv h10 hD1 hD0 hV0 KV hda x ha A1 h hf hh hl0 hdl dc0 dc1 gR
      go_enter Tryd.func127, Tryd.ntmps127
      go_upto_region 1 with (fail)
      generalize w.alloc (.cells #[.int .i64 0, .int .i64 0, .slice none 0 0, .slice none 0 0] 30) = w1 at *
      go_wp2_with fail
      refine (KR.out _).mono ?_
      rintro e w3 ⟨y, rfl, hy, hyc, hbl, g3⟩
      have LR := (Array.getElem?_eq_some_iff.1 HR.out).1
      have RX := (g3.block _ LR).trans HR.out
      have HY := Lib.hid hy
      have HYC := Lib.hid hyc
      have G3 := Lib.hid (GR.out.trans g3)
      have HB := Lib.hid (show ∀ z ∈ y.bl, w1.heap.size ≤ z from fun z hz => (hbl z hz).elim id (fun e => e.elim))
      have LRR := Lib.hid LR
      clear p0 p1 p2 p3 x0 x1 x2 x3 d0 d1 hy hyc hbl g3 KR LR
      obtain ⟨r0, r1, r2, r3, rf0, rf1, rf2, rf3⟩ := zero_atP RX
      go_wp2_with fail
      refine bodyPost_ret (v := y.val) (by simp [results, Tryd.results127, go_sem, r0, r1, r2, r3]) rfl ⟨y, rfl, ok_far HY.out fun z hz => ?_, by rw [F.out, HYC.out], fun z hz => .inl (by have := HB.out z hz; have := LRR.out; omega), by_fourP G3.out⟩
      have hne : z ≠ w.heap.size := by have := HB.out z hz; have := LRR.out; omega
      rw [Below.heap_setCell _ _ _ _ hne, Below.heap_setCell _ _ _ _ hne, Below.heap_setCell _ _ _ _ hne, Below.heap_setCell _ _ _ _ hne]
  · have c10 : (c.k == 10) = false := by rw [h9]; rfl
    have hvn : V0.toNat < c.ds.length := by omega
    obtain ⟨bd, od, hda, d0, dc0⟩ := num_at A1.2.dat V0.toNat hvn
    obtain ⟨D, hD⟩ : ∃ v, v = c.ds[V0.toNat] := ⟨_, rfl⟩
    rw [← hD] at d0 dc0
    have HD := Lib.hid dc0
    rw [hda] at p2
    have F := Lib.hid (show chC c.co (fs.map LK.co) = (fs.map LK.co).foldl appC (.mk 11 D [] []) by
      unfold chC
      rw [c.co_k, if_neg (by rw [h9]; decide), CV.out, c.co_ds, getD_int hvn, hD])
    have FB := Lib.hid (show ∀ y ∈ nbl LK.bl fa fs, y < w.heap.size from sl_bl_lt hf)
    have hvd : V0 < (c.ds.length : Int) := hv1
    clear h9 hD hV0 KV hda x ha A1 h hf hh hl0 hvn dc0 gR hv1
    go_enter Tryd.func127, Tryd.ntmps127
    go_upto_region 1 with (fail)
    generalize w.alloc (.cells #[.int .i64 0, .int .i64 0, .slice none 0 0, .slice none 0 0] 30) = w1 at *
    go_upto_region 5 with (fail)
    have SK := Lib.hid (show ∀ W, Gw w1 W → W.cell? ⟨bc, oc + 2, none⟩ = some (.slice (some ⟨bd, od, none⟩) c.ds.length c.dc) ∧ W.cell? ⟨bc, oc + 3, none⟩ = some (.slice (some ⟨bk, ok, none⟩) c.ks.length c.cap) ∧ W.cell? ⟨bk, ok + 1, none⟩ = some (.int .i64 V0) ∧ W.cell? ⟨bd, od + V0.toNat, none⟩ = some (.int .i64 D) from fun W g => ⟨g.cell p2 (cell_lt p2), g.cell p3 (cell_lt p3), g.cell x1 (cell_lt x1), g.cell d0 (cell_lt d0)⟩)
    have LR := Lib.hid (Array.getElem?_eq_some_iff.1 HR.out).1
    go_cut [5] from 5 to 47 (fun t5 wx => ∃ (T : Nat) (x : LK), t5 = .pointer (some ⟨T, 0, none⟩) ∧ w1.heap.size ≤ T ∧ wx.heap[T]? = some (.cells #[.int .i64 x.k, .int .i64 x.v, .slice x.da x.ds.length x.dc, .slice x.a x.ks.length x.cap] 30 (0, 0)) ∧ x.Ok wx ∧ x.co = .mk 11 D [] [] ∧ (∀ y ∈ x.bl, w1.heap.size ≤ y ∧ y ≠ T) ∧ Gw w1 wx)
    case first =>
      refine wp_region_held_drew (S := fun W => W.cell? ⟨bc, oc + 2, none⟩ = some (.slice (some ⟨bd, od, none⟩) c.ds.length c.dc) ∧ W.cell? ⟨bc, oc + 3, none⟩ = some (.slice (some ⟨bk, ok, none⟩) c.ks.length c.cap) ∧ W.cell? ⟨bk, ok + 1, none⟩ = some (.int .i64 V0) ∧ W.cell? ⟨bd, od + V0.toNat, none⟩ = some (.int .i64 D)) (by kernel_rfl) ?_ (fun hHeld => ?_)
      · exact SK.out _ (Gw.refl _).drew
      have gK : Gw w1 w1.drew := (Gw.refl w1).drew
      generalize w1.drew = wD at *
      refine wpAnyH_take (i := 0) (oi := { dst := some 34, op := _, type := _, pos := _, after := _, guard := _ }) (v := .pointer (some ⟨bc, oc, none⟩)) rfl (by kernel_rfl) (by kernel_rfl) (by kernel_rfl) (fun _ _ _ h => h) (Or.inl ⟨by rfl, ?_⟩) (by assumption) ?_
      · intro w hSw; obtain ⟨c2, c3, c4, c5⟩ := hSw; go_simp
      try simp only [Act.put, List.setIfInBounds_toArray, List.set_cons_zero, List.set_cons_succ]
      refine wpAnyH_take (i := 1) (oi := { dst := some 35, op := _, type := _, pos := _, after := _, guard := _ }) (v := .pointer (some ⟨bc, oc, none⟩)) rfl (by kernel_rfl) (by kernel_rfl) (by kernel_rfl) (fun _ _ _ h => h) (Or.inl ⟨by rfl, ?_⟩) (by assumption) ?_
      · intro w hSw; obtain ⟨c2, c3, c4, c5⟩ := hSw; go_simp
      try simp only [Act.put, List.setIfInBounds_toArray, List.set_cons_zero, List.set_cons_succ]
      refine wpAnyH_take (i := 2) (oi := { dst := some 36, op := _, type := _, pos := _, after := _, guard := _ }) (v := .pointer (some ⟨bc, oc + 2, none⟩)) rfl (by kernel_rfl) (by kernel_rfl) (by kernel_rfl) (fun _ _ _ h => h) (Or.inl ⟨by rfl, ?_⟩) (by assumption) ?_
      · intro w hSw; obtain ⟨c2, c3, c4, c5⟩ := hSw; go_simp
      try simp only [Act.put, List.setIfInBounds_toArray, List.set_cons_zero, List.set_cons_succ]
      refine wpAnyH_take (i := 3) (oi := { dst := some 37, op := _, type := _, pos := _, after := _, guard := _ }) (v := .slice (some ⟨bd, od, none⟩) c.ds.length c.dc) rfl (by kernel_rfl) (by kernel_rfl) (by kernel_rfl) (fun _ _ _ h => h) (Or.inl ⟨by rfl, ?_⟩) (by assumption) ?_
      · intro w hSw; obtain ⟨c2, c3, c4, c5⟩ := hSw; go_simp
      try simp only [Act.put, List.setIfInBounds_toArray, List.set_cons_zero, List.set_cons_succ]
      refine wpAnyH_take (i := 4) (oi := { dst := some 38, op := _, type := _, pos := _, after := _, guard := _ }) (v := .pointer (some ⟨bc, oc, none⟩)) rfl (by kernel_rfl) (by kernel_rfl) (by kernel_rfl) (fun _ _ _ h => h) (Or.inl ⟨by rfl, ?_⟩) (by assumption) ?_
      · intro w hSw; obtain ⟨c2, c3, c4, c5⟩ := hSw; go_simp
      try simp only [Act.put, List.setIfInBounds_toArray, List.set_cons_zero, List.set_cons_succ]
      refine wpAnyH_take (i := 5) (oi := { dst := some 39, op := _, type := _, pos := _, after := _, guard := _ }) (v := .pointer (some ⟨bc, oc, none⟩)) rfl (by kernel_rfl) (by kernel_rfl) (by kernel_rfl) (fun _ _ _ h => h) (Or.inl ⟨by rfl, ?_⟩) (by assumption) ?_
      · intro w hSw; obtain ⟨c2, c3, c4, c5⟩ := hSw; go_simp
      try simp only [Act.put, List.setIfInBounds_toArray, List.set_cons_zero, List.set_cons_succ]
      refine wpAnyH_take (i := 6) (oi := { dst := some 40, op := _, type := _, pos := _, after := _, guard := _ }) (v := .pointer (some ⟨bc, oc + 3, none⟩)) rfl (by kernel_rfl) (by kernel_rfl) (by kernel_rfl) (fun _ _ _ h => h) (Or.inl ⟨by rfl, ?_⟩) (by assumption) ?_
      · intro w hSw; obtain ⟨c2, c3, c4, c5⟩ := hSw; go_simp
      try simp only [Act.put, List.setIfInBounds_toArray, List.set_cons_zero, List.set_cons_succ]
      refine wpAnyH_take (i := 7) (oi := { dst := some 41, op := _, type := _, pos := _, after := _, guard := _ }) (v := .slice (some ⟨bk, ok, none⟩) c.ks.length c.cap) rfl (by kernel_rfl) (by kernel_rfl) (by kernel_rfl) (fun _ _ _ h => h) (Or.inl ⟨by rfl, ?_⟩) (by assumption) ?_
      · intro w hSw; obtain ⟨c2, c3, c4, c5⟩ := hSw; go_simp
      try simp only [Act.put, List.setIfInBounds_toArray, List.set_cons_zero, List.set_cons_succ]
      refine wpAnyH_take (i := 8) (oi := { dst := some 42, op := _, type := _, pos := _, after := _, guard := _ }) (v := .pointer (some ⟨bk, ok, none⟩)) rfl (by kernel_rfl) (by kernel_rfl) (by kernel_rfl) (fun _ _ _ h => h) (Or.inl ⟨by rfl, ?_⟩) (by assumption) ?_
      · intro w hSw; obtain ⟨c2, c3, c4, c5⟩ := hSw; go_simp
      try simp only [Act.put, List.setIfInBounds_toArray, List.set_cons_zero, List.set_cons_succ]
      refine wpAnyH_take (i := 9) (oi := { dst := some 43, op := _, type := _, pos := _, after := _, guard := _ }) (v := .pointer (some ⟨bk, ok + 1, none⟩)) rfl (by kernel_rfl) (by kernel_rfl) (by kernel_rfl) (fun _ _ _ h => h) (Or.inl ⟨by rfl, ?_⟩) (by assumption) ?_
      · intro w hSw; obtain ⟨c2, c3, c4, c5⟩ := hSw; go_simp
      try simp only [Act.put, List.setIfInBounds_toArray, List.set_cons_zero, List.set_cons_succ]
      refine wpAnyH_take (i := 10) (oi := { dst := some 44, op := _, type := _, pos := _, after := _, guard := _ }) (v := .int .i64 V0) rfl (by kernel_rfl) (by kernel_rfl) (by kernel_rfl) (fun _ _ _ h => h) (Or.inl ⟨by rfl, ?_⟩) (by assumption) ?_
      · intro w hSw; obtain ⟨c2, c3, c4, c5⟩ := hSw; go_simp
      try simp only [Act.put, List.setIfInBounds_toArray, List.set_cons_zero, List.set_cons_succ]
      refine wpAnyH_take (i := 11) (oi := { dst := some 45, op := _, type := _, pos := _, after := _, guard := _ }) (v := .pointer (some ⟨bd, od + V0.toNat, none⟩)) rfl (by kernel_rfl) (by kernel_rfl) (by kernel_rfl) (fun _ _ _ h => h) (Or.inl ⟨by rfl, ?_⟩) (by assumption) ?_
      · intro w hSw; obtain ⟨c2, c3, c4, c5⟩ := hSw; go_simp
      try simp only [Act.put, List.setIfInBounds_toArray, List.set_cons_zero, List.set_cons_succ]
      refine wpAnyH_take (i := 12) (oi := { dst := some 46, op := _, type := _, pos := _, after := _, guard := _ }) (v := .int .i64 D) rfl (by kernel_rfl) (by kernel_rfl) (by kernel_rfl) (fun _ _ _ h => h) (Or.inl ⟨by rfl, ?_⟩) (by assumption) ?_
      · intro w hSw; obtain ⟨c2, c3, c4, c5⟩ := hSw; go_simp
      try simp only [Act.put, List.setIfInBounds_toArray, List.set_cons_zero, List.set_cons_succ]
      refine wpAnyH_ready (rs := [13, 14]) (by kernel_rfl) (by simp) ?_
      refine AllReadyH.cons (o := { dst := some 47, op := _, type := _, pos := _, after := _, guard := _ }) rfl (fun K hK => ?_) (AllReadyH.cons (o := { dst := some 5, op := _, type := _, pos := _, after := _, guard := _ }) rfl (fun K hK => ?_) AllReadyH.nil)
      · go_simp
        go_at_call 136
        refine (spec_leafR D wD HD.out).mono ?_
        rintro e wf ⟨x, rfl, hx, hxc, hbl, g1⟩
        have OX := Lib.hid hx
        have CX := Lib.hid hxc
        have BLX := Lib.hid (show ∀ y ∈ x.bl, w1.heap.size ≤ y from fun y hy => (hbl y hy).elim (fun h => by have := gK.size; omega) (fun h => h.elim))
        have BLT := Lib.hid (show ∀ y ∈ x.bl, y < wf.heap.size from fun y hy => ok_bl_lt x _ hx y hy)
        replace gK := gK.trans g1
        clear hx hxc hbl g1
        go_wp2_with fail
        refine hK.out _ _ (SK.out _ gK) (fun hHeld => ?_)
        clear hK K
        try simp only [Act.put, List.setIfInBounds_toArray, List.set_cons_zero, List.set_cons_succ]
        refine wpAnyH_ready (rs := [14]) (by kernel_rfl) (by simp) ?_
        refine AllReadyH.cons (o := { dst := some 5, op := _, type := _, pos := _, after := _, guard := _ }) rfl (fun K hK => ?_) AllReadyH.nil
        go_simp
        refine hK _ _ (SK.out _ (gK.alloc (.cells #[.int .i64 0, .int .i64 0, .slice none 0 0, .slice none 0 0] 30))) (fun hHeld => ?_)
        clear hK K
        have HT := Lib.hid (heap_alloc_new wf (.cells #[.int .i64 0, .int .i64 0, .slice none 0 0, .slice none 0 0] 30))
        have HTV := Lib.hid (show wf.heap.size ∉ x.bl from fun e => by have := BLT.out _ e; omega)
        replace OX := Lib.hid (OX.out.grow ((Gw.refl _).alloc (.cells #[.int .i64 0, .int .i64 0, .slice none 0 0, .slice none 0 0] 30)))
        have TG := Lib.hid gK.size
        have LT := Lib.hid (show wf.heap.size < (wf.alloc (.cells #[.int .i64 0, .int .i64 0, .slice none 0 0, .slice none 0 0] 30)).heap.size by simp)
        replace gK := gK.alloc (.cells #[.int .i64 0, .int .i64 0, .slice none 0 0, .slice none 0 0] 30)
        try simp only [Act.put, List.setIfInBounds_toArray, List.set_cons_zero, List.set_cons_succ]
        generalize wf.alloc (.cells #[.int .i64 0, .int .i64 0, .slice none 0 0, .slice none 0 0] 30) = wfl at *
        generalize wf.heap.size = T at *
        obtain ⟨z0, z1, z2, z3, y0, y1, y2, y3⟩ := zero_atP HT.out
        refine wpAnyH_ready (rs := [15]) (by kernel_rfl) (by simp) ?_
        refine AllReadyH.cons (o := { dst := none, op := _, type := _, pos := _, after := _, guard := _ }) rfl (fun K hK => ?_) AllReadyH.nil
        go_simp
        refine hK _ _ (SK.out _ ((((Below.setCell gK TG.out _).setCell TG.out _).setCell TG.out _).setCell TG.out _)) (fun hHeld => ?_)
        clear hK K
        try simp only [Act.put, List.setIfInBounds_toArray, List.set_cons_zero, List.set_cons_succ]
        refine wpAnyH_done (by kernel_rfl) ?_ _
        go_wp2_with fail
        go_meet
        case rel =>
          have far : ∀ y, y ≠ T → ((((wfl.setCell ⟨T, 0, none⟩ (.int .i64 x.k)).setCell ⟨T, 1, none⟩ (.int .i64 x.v)).setCell ⟨T, 2, none⟩ (.slice x.da x.ds.length x.dc)).setCell ⟨T, 3, none⟩ (.slice x.a x.ks.length x.cap)).heap[y]? = wfl.heap[y]? := fun y hy => by
            rw [Below.heap_setCell _ _ _ _ hy, Below.heap_setCell _ _ _ _ hy, Below.heap_setCell _ _ _ _ hy, Below.heap_setCell _ _ _ _ hy]
          exact ⟨T, x, rfl, TG.out, by simp [World.setCell, Array.getElem?_modify, HT.out], ok_far OX.out (fun y hy => far y (fun e => HTV.out (e ▸ hy))), CX.out, (fun y hy => ⟨BLX.out y hy, fun e => HTV.out (e ▸ hy)⟩), ((((Below.setCell gK TG.out _).setCell TG.out _).setCell TG.out _).setCell TG.out _)⟩
      · go_simp
        refine hK _ _ (SK.out _ (gK.alloc (.cells #[.int .i64 0, .int .i64 0, .slice none 0 0, .slice none 0 0] 30))) (fun hHeld => ?_)
        clear hK K
        have HT := Lib.hid (heap_alloc_new wD (.cells #[.int .i64 0, .int .i64 0, .slice none 0 0, .slice none 0 0] 30))
        have TG := Lib.hid gK.size
        have LT := Lib.hid (show wD.heap.size < (wD.alloc (.cells #[.int .i64 0, .int .i64 0, .slice none 0 0, .slice none 0 0] 30)).heap.size by simp)
        replace gK := gK.alloc (.cells #[.int .i64 0, .int .i64 0, .slice none 0 0, .slice none 0 0] 30)
        try simp only [Act.put, List.setIfInBounds_toArray, List.set_cons_zero, List.set_cons_succ]
        generalize wD.alloc (.cells #[.int .i64 0, .int .i64 0, .slice none 0 0, .slice none 0 0] 30) = wl at *
        generalize wD.heap.size = T at *
        refine wpAnyH_ready (rs := [13]) (by kernel_rfl) (by simp) ?_
        refine AllReadyH.cons (o := { dst := some 47, op := _, type := _, pos := _, after := _, guard := _ }) rfl (fun K hK => ?_) AllReadyH.nil
        go_simp
        go_at_call 136
        refine (spec_leafR D wl HD.out).mono ?_
        rintro e wlf ⟨x, rfl, hx, hxc, hbl, g1⟩
        have OX := Lib.hid hx
        have CX := Lib.hid hxc
        have HTV := Lib.hid (show T ∉ x.bl from fun e => (hbl T e).elim (fun h => by have := LT.out; omega) (fun h => h))
        replace HT := Lib.hid ((g1.block _ LT.out).trans HT.out)
        have BLX := Lib.hid (show ∀ y ∈ x.bl, w1.heap.size ≤ y from fun y hy => (hbl y hy).elim (fun h => by have := gK.size; omega) (fun h => h.elim))
        have BLT := Lib.hid (show ∀ y ∈ x.bl, y < wlf.heap.size from fun y hy => ok_bl_lt x _ hx y hy)
        replace gK := gK.trans g1
        clear hx hxc hbl g1
        go_wp2_with fail
        refine hK.out _ _ (SK.out _ gK) (fun hHeld => ?_)
        clear hK K
        try simp only [Act.put, List.setIfInBounds_toArray, List.set_cons_zero, List.set_cons_succ]
        obtain ⟨z0, z1, z2, z3, y0, y1, y2, y3⟩ := zero_atP HT.out
        refine wpAnyH_ready (rs := [15]) (by kernel_rfl) (by simp) ?_
        refine AllReadyH.cons (o := { dst := none, op := _, type := _, pos := _, after := _, guard := _ }) rfl (fun K hK => ?_) AllReadyH.nil
        go_simp
        refine hK _ _ (SK.out _ ((((Below.setCell gK TG.out _).setCell TG.out _).setCell TG.out _).setCell TG.out _)) (fun hHeld => ?_)
        clear hK K
        try simp only [Act.put, List.setIfInBounds_toArray, List.set_cons_zero, List.set_cons_succ]
        refine wpAnyH_done (by kernel_rfl) ?_ _
        go_wp2_with fail
        go_meet
        case rel =>
          have far : ∀ y, y ≠ T → ((((wlf.setCell ⟨T, 0, none⟩ (.int .i64 x.k)).setCell ⟨T, 1, none⟩ (.int .i64 x.v)).setCell ⟨T, 2, none⟩ (.slice x.da x.ds.length x.dc)).setCell ⟨T, 3, none⟩ (.slice x.a x.ks.length x.cap)).heap[y]? = wlf.heap[y]? := fun y hy => by
            rw [Below.heap_setCell _ _ _ _ hy, Below.heap_setCell _ _ _ _ hy, Below.heap_setCell _ _ _ _ hy, Below.heap_setCell _ _ _ _ hy]
          exact ⟨T, x, rfl, TG.out, by simp [World.setCell, Array.getElem?_modify, HT.out], ok_far OX.out (fun y hy => far y (fun e => HTV.out (e ▸ hy))), CX.out, (fun y hy => ⟨BLX.out y hy, fun e => HTV.out (e ▸ hy)⟩), ((((Below.setCell gK TG.out _).setCell TG.out _).setCell TG.out _).setCell TG.out _)⟩
    obtain ⟨T, x, rfl, hT0, hTb, hx, hxc, hxbl, g3⟩ := hcut
    have RC := Lib.hid ((g3.block _ LR.out).trans HR.out)
    have G3 := Lib.hid (GR.out.trans g3)
    have HT0 := Lib.hid hT0
    have HTB := Lib.hid hTb
    have HX := Lib.hid hx
    have HXC := Lib.hid hxc
    have HXB := Lib.hid hxbl
    clear hT0 hTb hx hxc hxbl g3 p0 p1 p2 p3 x0 x1 x2 x3 d0
    go_wp2_with fail
    go_loopw [6] (fun i wr => ∃ (j : Nat) (x : LK), i = .int .i64 j ∧ j ≤ fs.length ∧ wr.heap[T]? = some (.cells #[.int .i64 x.k, .int .i64 x.v, .slice x.da x.ds.length x.dc, .slice x.a x.ks.length x.cap] 30 (0, 0)) ∧ x.Ok wr ∧ x.co = ((fs.map LK.co).take j).foldl appC (.mk 11 D [] []) ∧ (∀ y ∈ x.bl, (w1.heap.size ≤ y ∧ y ≠ T) ∨ y ∈ nbl LK.bl fa fs) ∧ wr.heap[w.heap.size]? = some (.cells #[.int .i64 0, .int .i64 0, .slice none 0 0, .slice none 0 0] 30 (0, 0)) ∧ Gw w wr) (fun i _ => fs.length - (intOf i).toNat)
    case atStart => exact ⟨0, x, rfl, Nat.zero_le _, HTB.out, HX.out, by rw [HXC.out]; rfl, (fun y hy => .inl (HXB.out y hy)), RC.out, G3.out⟩
    case round =>
      obtain ⟨j, x, rfl, hj, hT, hx, hxc, hxb, hR, hg⟩ := hrel
      have HXC2 := Lib.hid hxc
      have HXB2 := Lib.hid hxb
      have HOX := Lib.hid hx
      have RR := Lib.hid hR
      have HG := Lib.hid hg
      have HTW := Lib.hid (show w.heap.size < T ∧ w.heap.size < w1.heap.size from ⟨by have := HT0.out; have := LR.out; omega, LR.out⟩)
      clear hxc hxb hx hR hg
      by_cases hlt : j < fs.length
      · obtain ⟨bf, of, hfa, hkf⟩ := coAt.kid (gSl.grow coLen coGr HF.out HG.out) j hlt
        obtain ⟨f, hf'⟩ : ∃ f, f = fs[j] := ⟨_, rfl⟩
        rw [← hf'] at hkf
        have FBL := Lib.hid (show ∀ y ∈ f.bl, y ∈ nbl LK.bl fa fs from fun y hy => by
          rw [hfa, nb_ne (fun e => by rw [e] at hlt; simp at hlt)]
          exact List.mem_cons_of_mem _ (List.mem_flatMap.2 ⟨f, by rw [hf']; exact List.getElem_mem hlt, hy⟩))
        have STP := Lib.hid (show ((fs.map LK.co).take (j + 1)).foldl appC (.mk 11 D [] []) = appC (((fs.map LK.co).take j).foldl appC (.mk 11 D [] [])) f.co by
          rw [List.take_succ_eq_append_getElem (by simpa using hlt), List.foldl_append]
          simp [hf'])
        have HTF := Lib.hid (show bf ≠ T from fun e => by
          have : bf ∈ nbl LK.bl fa fs := by rw [hfa, nb_ne (fun e => by rw [e] at hlt; simp at hlt)]; exact List.mem_cons_self ..
          have := FB.out bf this
          have := HTW.out
          omega)
        have gd := (Gw.refl wr).drew
        have KA := Lib.hid (spec_appA x f wr.drew (HOX.out.grow gd) (hkf.2.grow gd))
        obtain ⟨e0, e1, e2, e3⟩ := (hkf.grow gd).c
        have HTT := Lib.hid (show wr.drew.heap[T]? = some (.cells #[.int .i64 x.k, .int .i64 x.v, .slice x.da x.ds.length x.dc, .slice x.a x.ks.length x.cap] 30 (0, 0)) from hT)
        have t0 : wr.drew.cell? ⟨T, 0, none⟩ = some (.int .i64 x.k) := cell_of_row _ _ 0 _ _ _ HTT.out
        have t1 : wr.drew.cell? ⟨T, 1, none⟩ = some (.int .i64 x.v) := cell_of_row _ _ 1 _ _ _ HTT.out
        have t2 : wr.drew.cell? ⟨T, 2, none⟩ = some (.slice x.da x.ds.length x.dc) := cell_of_row _ _ 2 _ _ _ HTT.out
        have t3 : wr.drew.cell? ⟨T, 3, none⟩ = some (.slice x.a x.ks.length x.cap) := cell_of_row _ _ 3 _ _ _ HTT.out
        have RRD := Lib.hid (show wr.drew.heap[w.heap.size]? = _ from RR.out)
        have HGD := Lib.hid (HG.out.trans gd)
        have q0 : (0 : Int) ≤ j := by omega
        have q1 : (j : Int) < fs.length := by omega
        have HFA := Lib.hid hfa
        subst hfa
        clear hkf hf' gd hT
        go_wp2_with fail
        go_upto_region 9 with (fail)
        obtain ⟨S, hS⟩ : ∃ S : Array Bool → World → Prop, S = fun L X => (L.getD 6 true = false → X.cell? ⟨T, 0, none⟩ = some (.int .i64 x.k) ∧ X.cell? ⟨T, 1, none⟩ = some (.int .i64 x.v) ∧ X.cell? ⟨T, 2, none⟩ = some (.slice x.da x.ds.length x.dc) ∧ X.cell? ⟨T, 3, none⟩ = some (.slice x.a x.ks.length x.cap)) ∧ X.cell? ⟨bf, of + j * 4, none⟩ = some (.int .i64 f.k) ∧ X.cell? ⟨bf, of + j * 4 + 1, none⟩ = some (.int .i64 f.v) ∧ X.cell? ⟨bf, of + j * 4 + 2, none⟩ = some (.slice f.da f.ds.length f.dc) ∧ X.cell? ⟨bf, of + j * 4 + 3, none⟩ = some (.slice f.a f.ks.length f.cap) := ⟨_, rfl⟩
        have HS := Lib.hid hS
        have HIND := Lib.hid (show ∀ i, i ≠ 6 → ∀ L X, S (L.setIfInBounds i true) X ↔ S L X from fun i hi L X => by rw [hS]; simp only; rw [getD_set_ne true hi])
        have s0 : S (Array.replicate 7 false) wr.drew := by rw [hS]; exact ⟨fun _ => ⟨t0, t1, t2, t3⟩, e0, e1, e2, e3⟩
        have hmx : Tryd.prog.follows .mixedOrders = true := by kernel_rfl
        clear hS
        refine any_plain (S := S) hmx ?_
        have KA0 := KA.out
        generalize wr.drew = wd at *
        refine anyL_take (i := 0) (oi := { dst := some 54, op := _, type := _, pos := _, after := _, guard := _ }) (v := x.val) rfl (by kernel_rfl) (by kernel_rfl) (by kernel_rfl) (fun _ _ _ h => h) (HIND.out 0 (by decide)) (fun L => L.getD 6 true = false) ?hG0 rfl (Or.inl ⟨by rfl, ?hy0⟩) s0 ?rest0
        case hG0 =>
          rintro L j h9 hi hj hne
          obtain ⟨g1, _⟩ := mem_ready.1 hi
          obtain ⟨g2, oj, hoj, hall⟩ := mem_ready.1 hj
          have n9 : j ≠ 6 := fun e => by
            subst e
            cases hoj
            exact getD_clash g1 (hall { on := 0, ground := .phase } (by simp) (by rfl))
          exact (getD_set_ne true n9).trans h9
        case hy0 =>
          rintro X ⟨L, h9, h⟩
          rw [HS.out] at h
          obtain ⟨c0, c1, c2, c3⟩ := h.1 h9
          clear h
          go_simp
        have s1 := (HIND.out 0 (by decide) _ _).2 s0
        clear s0
        try simp only [Act.put, List.setIfInBounds_toArray, List.set_cons_zero, List.set_cons_succ]
        refine anyL_take (i := 1) (oi := { dst := some 55, op := _, type := _, pos := _, after := _, guard := _ }) (v := .slice (some ⟨bf, of, none⟩) fs.length fcap) rfl (by kernel_rfl) (by kernel_rfl) (by kernel_rfl) (fun _ _ _ h => h) (HIND.out 1 (by decide)) (fun _ => True) (fun _ _ _ _ _ _ => trivial) trivial (Or.inl ⟨by rfl, ?hy1⟩) s1 ?rest1
        case hy1 =>
          rintro X _
          go_simp
        have s2 := (HIND.out 1 (by decide) _ _).2 s1
        clear s1
        try simp only [Act.put, List.setIfInBounds_toArray, List.set_cons_zero, List.set_cons_succ]
        refine anyL_take (i := 2) (oi := { dst := some 56, op := _, type := _, pos := _, after := _, guard := _ }) (v := .int .i64 j) rfl (by kernel_rfl) (by kernel_rfl) (by kernel_rfl) (fun _ _ _ h => h) (HIND.out 2 (by decide)) (fun _ => True) (fun _ _ _ _ _ _ => trivial) trivial (Or.inl ⟨by rfl, ?hy2⟩) s2 ?rest2
        case hy2 =>
          rintro X _
          go_simp
        have s3 := (HIND.out 2 (by decide) _ _).2 s2
        clear s2
        try simp only [Act.put, List.setIfInBounds_toArray, List.set_cons_zero, List.set_cons_succ]
        refine anyL_take (i := 3) (oi := { dst := some 57, op := _, type := _, pos := _, after := _, guard := _ }) (v := .pointer (some ⟨bf, of + j * 4, none⟩)) rfl (by kernel_rfl) (by kernel_rfl) (by kernel_rfl) (fun _ _ _ h => h) (HIND.out 3 (by decide)) (fun _ => True) (fun _ _ _ _ _ _ => trivial) trivial (Or.inl ⟨by rfl, ?hy3⟩) s3 ?rest3
        case hy3 =>
          rintro X _
          go_simp
        have s4 := (HIND.out 3 (by decide) _ _).2 s3
        clear s3
        try simp only [Act.put, List.setIfInBounds_toArray, List.set_cons_zero, List.set_cons_succ]
        refine anyL_take (i := 4) (oi := { dst := some 58, op := _, type := _, pos := _, after := _, guard := _ }) (v := f.val) rfl (by kernel_rfl) (by kernel_rfl) (by kernel_rfl) (fun _ _ _ h => h) (HIND.out 4 (by decide)) (fun _ => True) (fun _ _ _ _ _ _ => trivial) trivial (Or.inl ⟨by rfl, ?hy4⟩) s4 ?rest4
        case hy4 =>
          rintro X ⟨L, _, h⟩
          rw [HS.out] at h
          obtain ⟨_, c0, c1, c2, c3⟩ := h
          go_simp
        have s5 := (HIND.out 4 (by decide) _ _).2 s4
        clear s4
        try simp only [Act.put, List.setIfInBounds_toArray, List.set_cons_zero, List.set_cons_succ]
        refine anyL_step (i := 5) (o := { dst := some 59, op := _, type := _, pos := _, after := _, guard := _ }) rfl (by kernel_rfl) (by rfl) (fun K hK => ?_)
        go_simp
        refine KA0.mono ?_
        rintro e w3 ⟨y, rfl, hy, hyc, hybl, g3⟩
        have hlT : T < wd.heap.size := cell_lt t0
        have hlF : bf < wd.heap.size := cell_lt e0
        have s6 := (HIND.out 5 (by decide) _ _).2 s5
        have keyS : ∀ L, S L wd → S L w3 := fun L h => by
          rw [HS.out] at h ⊢
          obtain ⟨h1, c0, c1, c2, c3⟩ := h
          exact ⟨fun e => ⟨g3.cell (h1 e).1 hlT, g3.cell (h1 e).2.1 hlT, g3.cell (h1 e).2.2.1 hlT, g3.cell (h1 e).2.2.2 hlT⟩, g3.cell c0 hlF, g3.cell c1 hlF, g3.cell c2 hlF, g3.cell c3 hlF⟩
        have s7 := keyS _ s6
        refine hK.out _ _ s7 ?_
        have HY := Lib.hid hy
        have HYC := Lib.hid hyc
        have HYB := Lib.hid hybl
        have G3' := Lib.hid g3
        have T3 := Lib.hid ((g3.block T hlT).trans HTT.out)
        clear s5 s6 s7 hK K hy hyc hybl
        try simp only [Act.put, List.setIfInBounds_toArray, List.set_cons_zero, List.set_cons_succ]
        refine anyL_step (i := 6) (o := { dst := none, op := _, type := _, pos := _, after := _, guard := _ }) rfl (by kernel_rfl) (by rfl) (fun K hK => ?_)
        have u0 : w3.cell? ⟨T, 0, none⟩ = some (.int .i64 x.k) := cell_of_row _ _ 0 _ _ _ T3.out
        have u1 : w3.cell? ⟨T, 1, none⟩ = some (.int .i64 x.v) := cell_of_row _ _ 1 _ _ _ T3.out
        have u2 : w3.cell? ⟨T, 2, none⟩ = some (.slice x.da x.ds.length x.dc) := cell_of_row _ _ 2 _ _ _ T3.out
        have u3 : w3.cell? ⟨T, 3, none⟩ = some (.slice x.a x.ks.length x.cap) := cell_of_row _ _ 3 _ _ _ T3.out
        have uf : ∀ i, w3.frozen? ⟨T, i, none⟩ = false := fun i => by simp [World.frozen?, T3.out]
        have uf0 := uf 0
        have uf1 := uf 1
        have uf2 := uf 2
        have uf3 := uf 3
        go_simp
        refine hK.out _ _ (by rw [HS.out]; exact ⟨fun e => (by cases e), (far4 HTF.out).trans (g3.cell e0 hlF), (far4 HTF.out).trans (g3.cell e1 hlF), (far4 HTF.out).trans (g3.cell e2 hlF), (far4 HTF.out).trans (g3.cell e3 hlF)⟩) ?_
        clear hK K u0 u1 u2 u3 uf uf0 uf1 uf2 uf3
        refine anyL_done (by kernel_rfl) ?_ _
        go_wp2_with fail
        go_roundw
        case rel =>
          have hlTw : w.heap.size < wd.heap.size := (Array.getElem?_eq_some_iff.1 RRD.out).1
          have hyT : ∀ z ∈ y.bl, (w1.heap.size ≤ z ∧ z ≠ T) ∨ z ∈ nbl LK.bl (some ⟨bf, of, none⟩) fs := fun z hz => by
            rcases HYB.out z hz with h | h | h
            · exact .inl ⟨by have := HT0.out; omega, by omega⟩
            · exact HXB2.out z h
            · exact .inr (FBL.out z h)
          have far : ∀ z, z ≠ T → ∀ a b c d : Value, ((((w3.setCell ⟨T, 0, none⟩ a).setCell ⟨T, 1, none⟩ b).setCell ⟨T, 2, none⟩ c).setCell ⟨T, 3, none⟩ d).heap[z]? = w3.heap[z]? := fun z hz a b c d => by
            rw [Below.heap_setCell _ _ _ _ hz, Below.heap_setCell _ _ _ _ hz, Below.heap_setCell _ _ _ _ hz, Below.heap_setCell _ _ _ _ hz]
          have hTle : w.heap.size ≤ T := by have := HTW.out; omega
          refine ⟨j + 1, y, by go_num, by omega, by simp [World.setCell, Array.getElem?_modify, T3.out], ok_far HY.out (fun z hz => far z (fun e => ?_) _ _ _ _), by rw [STP.out, HYC.out, HXC2.out]; rfl, hyT, (far _ (by have := HTW.out; omega) _ _ _ _).trans ((G3'.out.block _ hlTw).trans RRD.out), (((Below.setCell (HGD.out.trans G3'.out) hTle _).setCell hTle _).setCell hTle _).setCell hTle _⟩
          rcases hyT z hz with h | h
          · exact h.2 e
          · have := FB.out z h; have := HTW.out; omega
        case measure => simp [intOf]; omega
      · have hall : j = fs.length := by omega
        subst hall
        have F2 := Lib.hid (show x.co = chC c.co (fs.map LK.co) by rw [F.out, HXC2.out, List.take_of_length_le (by simp)])
        have q0 : (0 : Int) ≤ fs.length := by omega
        have t0 : wr.cell? ⟨T, 0, none⟩ = some (.int .i64 x.k) := cell_of_row _ _ 0 _ _ _ hT
        have t1 : wr.cell? ⟨T, 1, none⟩ = some (.int .i64 x.v) := cell_of_row _ _ 1 _ _ _ hT
        have t2 : wr.cell? ⟨T, 2, none⟩ = some (.slice x.da x.ds.length x.dc) := cell_of_row _ _ 2 _ _ _ hT
        have t3 : wr.cell? ⟨T, 3, none⟩ = some (.slice x.a x.ks.length x.cap) := cell_of_row _ _ 3 _ _ _ hT
        obtain ⟨r0, r1, r2, r3, rf0, rf1, rf2, rf3⟩ := zero_atP RR.out
        clear hj hlt hT
        go_wp2_with fail
        refine bodyPost_ret (v := x.val) (by simp [results, Tryd.results127, go_sem, r0, r1, r2, r3]) rfl ⟨x, rfl, ok_far HOX.out fun z hz => ?_, F2.out, fun z hz => ?_, by_fourP HG.out⟩
        · have hne : z ≠ w.heap.size := by
            rcases HXB2.out z hz with h | h
            · have := HTW.out; omega
            · have := FB.out z h; omega
          rw [Below.heap_setCell _ _ _ _ hne, Below.heap_setCell _ _ _ _ hne, Below.heap_setCell _ _ _ _ hne, Below.heap_setCell _ _ _ _ hne]
        · rcases HXB2.out z hz with h | h
          · exact .inl (by have := HTW.out; omega)
          · exact .inr h

end Go.Proofs.YtfbgkbgoooepmaaDoor.Con
