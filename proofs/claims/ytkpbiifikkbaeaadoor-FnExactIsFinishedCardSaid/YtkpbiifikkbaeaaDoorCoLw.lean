/-
  The laws' own functions on core terms and on rows of numbers: szInt64S, toInt64S, eqInt64S, szCoreS, szCore, toCoreS, toCore, eqCoreS, eqCore. No condition but that the terms lie in memory and are not too large.
-/
import Derived.Test.YtkpbiifikkbaeaaDoorCo
import Derived.Test.YtkpbiifikkbaeaaDoorTySz
import Derived.Test.YtkpbiifikkbaeaaDoorTyTo
import Derived.Outline
import Derived.LoopTactic
import Derived.Lib.Hide
import Derived.BigQuiet
import Derived.Laws.MakeOwn
import Derived.StillTailTactics
import Derived.Deep.Cut
namespace Go.Proofs.YtkpbiifikkbaeaaDoor.Con
open Go.RowKit
set_option linter.unusedVariables false

theorem kmap_len {α β : Type} {f : α → β} {xs ys : List α} (h : xs.map f = ys.map f) : xs.length = ys.length := by simpa using congrArg List.length h
theorem kmap_get {α β : Type} {f : α → β} {xs ys : List α} (h : xs.map f = ys.map f) (i : Nat) (hx : i < xs.length) (hy : i < ys.length) : f xs[i] = f ys[i] := by
  have := congrArg (fun l => l[i]?) h
  simpa [List.getElem?_map, List.getElem?_eq_getElem hx, List.getElem?_eq_getElem hy] using this

def KSz (w : World) (left : Int) (s : Nat) (e : Ending) (w' : World) : Prop := e = .returned (.int .i64 (szR left s)) ∧ Gw w w'

theorem laws_szNumS (n : Nat) (hn : n ≤ 9223372036854775807) (w : World) (a : Option Addr) (cap : Nat) (left : Int) (h0 : 0 ≤ left) (h1 : left ≤ 1048576) :
    Calls Tryd.prog 48 #[.slice a n cap, .int .i64 left] w (KSz w left n) := by
  by_cases hsm : left < n
  · have hsm2 : left - n < 0 := by omega
    go_enter Tryd.func48, Tryd.ntmps48
    go_wp2_with fail
    go_ret
    exact ⟨ret_int (by unfold szR; rw [if_neg (by omega)]), Gw.refl _⟩
  · have hsm2 : 0 ≤ left - n := by omega
    have hsm3 : (n : Int) ≤ left := by omega
    go_enter Tryd.func48, Tryd.ntmps48
    go_wp2_with fail
    go_ret
    exact ⟨ret_int (by unfold szR; rw [if_pos (by omega)]), Gw.refl _⟩

def ToNum (w : World) (ns : List Int) (e : Ending) (w' : World) : Prop := ∃ (a : Option Addr) (cap : Nat), e = .returned (.slice a ns.length cap) ∧ numNew w.heap.size w' a cap ns ∧ Gw w w'

theorem laws_toNumS (ns : List Int) (w : World) (a : Option Addr) (cap : Nat) (h : numSl w a cap ns) (hl : ns.length ≤ 1048576) :
    Calls Tryd.prog 51 #[.slice a ns.length cap] w (ToNum w ns) := by
  obtain ⟨_, _, hrow⟩ := h
  obtain ⟨i0, hi, hz0, hz1, hz2⟩ := info_parts (P := Tryd.prog) (e := 2) (z := .int .i64 0) (size := 1) (bytes := 8) (by kernel_rfl)
  have hmk : ∀ W : World, (Instr.makeSlice 25 (.int .i64 (ns.length : Int)) (.int .i64 (ns.length : Int))).run Tryd.prog W = .ok (.slice (some ⟨W.heap.size, 0, none⟩) ns.length ns.length) (W.alloc (.cells (madeCells #[.int .i64 0] ns.length) 2)) := fun W => by
    have hr := run_make (P := Tryd.prog) W 25 2 i0 _ Tryd.underlying25 hi hz0 .i64 .i64 (ns.length : Int) (ns.length : Int) (by omega) (Int.le_refl _) (by rw [hz2]; omega) (by omega)
    rw [Int.toNat_natCast, hz1, Nat.mul_one] at hr
    exact hr
  have HI := Lib.hid hi
  clear hi hz0 hz1 hz2
  go_enter Tryd.func51, Tryd.ntmps51
  go_wp2_with fail
  have hgw0 : Gw w (w.alloc (.cells (madeCells #[.int .i64 0] ns.length) 2)) := (Gw.refl w).alloc _
  go_loopw [4] (fun i wr => ∃ us : List Int, i = .int .i64 us.length ∧ us = ns.take us.length ∧ gFill 1 nE nOk nB wr w.heap.size ns.length us ∧ Gw w wr) (fun i _ => ns.length - (intOf i).toNat)
  case atStart => exact ⟨[], rfl, rfl, gFill.start _ _ _ ⟨_, _, heap_alloc_new _ _, by rw [size_madeCells]; omega⟩, hgw0⟩
  case round =>
    obtain ⟨us, rfl, hty, hfill, hg⟩ := hrel
    have HT := Lib.hid hty
    have HF := Lib.hid hfill
    have hj : us.length ≤ ns.length := hfill.1
    clear hty hfill hgw0 HI hmk
    by_cases hlt : us.length < ns.length
    · have hrow' := hrow.resolve_left (fun e => by subst e; simp at hlt)
      obtain ⟨b, o, rfl, hr⟩ := hrow'
      obtain ⟨c0, hk⟩ := numRow_get (hr.grow nLen nGr hg) us.length hlt
      clear hrow
      obtain ⟨v0, x0⟩ := HF.out.room hlt 0 (by omega)
      have y0 := HF.out.free (us.length * 1 + 0)
      rw [Nat.mul_one, Nat.add_zero] at x0 y0
      have HK := Lib.hid hk
      clear hk
      go_wp2_with fail
      go_roundw
      case rel =>
        have hl1 : us.length + 1 = (us ++ [ns[us.length]]).length := by simp
        refine ⟨us ++ [ns[us.length]], by rw [← hl1]; go_num, ?_, ?_, ?_⟩
        · rw [← hl1, List.take_succ_eq_append_getElem hlt, ← HT.out]
        · have := HF.out.put nLen nFr hlt (B := w.heap.size + 1) (u := ns[us.length]) ⟨HK.out, List.nodup_nil, fun _ h => by cases h⟩ (fun b hb => by simp [nB] at hb) (by omega)
          rw [Nat.mul_one] at this
          exact this
        · exact Below.setCell hg (by simp) _
      case measure => simp [intOf]; omega
    · have hall : us.length = ns.length := by omega
      have hus : us = ns := by have := HT.out; rw [hall, List.take_length] at this; exact this
      subst hus
      have hdone := HF.out.done (cap := us.length) (B := w.heap.size) hj (by unfold maxLen; omega) (Nat.le_refl _)
      have HD := Lib.hid hdone
      clear hdone
      go_wp2_with fail
      go_ret
      exact ⟨_, _, rfl, HD.out, hg⟩

set_option maxRecDepth 100000 in
theorem laws_eqNumS (xs : List Int) (w : World) (a b : Option Addr) (c d : Nat) (ho : numSl w a c xs) (hp : numSl w b d xs) :
    Calls Tryd.prog 54 #[.slice a xs.length c, .slice b xs.length d] w (TrueGw w) := by
  have hn : xs.length ≤ 9223372036854775807 := Nat.le_trans ho.1 ho.2.1
  have hr1 := ho.2.2
  have hr2 := hp.2.2
  clear ho hp
  go_enter Tryd.func54, Tryd.ntmps54
  go_wp2_with fail
  go_loopw [5] (fun i wr => ∃ j : Nat, j ≤ xs.length ∧ i = .int .i64 j ∧ Gw w wr) (fun i _ => xs.length - (intOf i).toNat)
  case atStart => exact ⟨0, by omega, rfl, Gw.refl _⟩
  case round =>
    obtain ⟨j, hj, rfl, hg⟩ := hrel
    by_cases hlt : j < xs.length
    · obtain ⟨b1, o1, rfl, r1⟩ := hr1.resolve_left (fun e => by subst e; simp at hlt)
      obtain ⟨b2, o2, rfl, r2⟩ := hr2.resolve_left (fun e => by subst e; simp at hlt)
      obtain ⟨c0, hk⟩ := numRow_get (r1.grow nLen nGr hg) j hlt
      obtain ⟨d0, _⟩ := numRow_get (r2.grow nLen nGr hg) j hlt
      clear hr1 hr2 hk
      obtain ⟨x, hx⟩ : ∃ x, x = xs[j] := ⟨_, rfl⟩
      rw [← hx] at c0 d0
      have q0 : (0 : Int) ≤ j := by omega
      have q1 : (j : Int) < xs.length := by omega
      have e0 : (x != x) = false := by simp
      clear hx
      go_wp2_with (go_quiet (fail))
      go_roundw
      case rel => exact ⟨j + 1, by omega, by go_num, by first | exact hg.drewN _ | exact hg | exact hg.drew⟩
      case measure => simp [intOf]; omega
    · obtain rfl : j = xs.length := by omega
      go_wp2_with fail
      go_ret
      exact ⟨rfl, hg⟩

theorem szCoreS_of (ks : List LK) (ih : ∀ t ∈ ks, ∀ (w : World) (left : Int), t.Ok w → 0 ≤ left → left ≤ 1048576 → Calls Tryd.prog 14 #[t.val, .int .i64 left] w (KSz w left t.sz))
    (w : World) (a : Option Addr) (cap : Nat) (left : Int) (h : coSl w a cap ks) (h0 : 0 ≤ left) (h1 : left ≤ 1048576) :
    Calls Tryd.prog 25 #[.slice a ks.length cap, .int .i64 left] w (KSz w left (sm LK.sz ks)) := by
  obtain ⟨hlc, hcap, hrow⟩ := h
  have hl : ks.length ≤ 9223372036854775807 := Nat.le_trans hlc hcap
  clear hlc hcap
  by_cases hsm : left < ks.length
  · have := sm_ge LK.sz ks
    have hsm2 : left - ks.length < 0 := by omega
    go_enter Tryd.func25, Tryd.ntmps25
    go_wp2_with fail
    go_ret
    exact ⟨ret_int (by unfold szR; rw [if_neg (by omega)]), Gw.refl _⟩
  · have hsm2 : 0 ≤ left - ks.length := by omega
    have hsm3 : (ks.length : Int) ≤ left := by omega
    go_enter Tryd.func25, Tryd.ntmps25
    go_wp2_with fail
    clear hsm2 hsm3
    go_loopw [1, 5] (fun l i wr => ∃ j : Nat, j ≤ ks.length ∧ i = .int .i64 j ∧ (sm LK.sz (ks.take j) : Int) + (ks.length - j) ≤ left ∧ l = .int .i64 (left - (sm LK.sz (ks.take j) : Int) - (ks.length - j)) ∧ Gw w wr) (fun _ i _ => ks.length - (intOf i).toNat)
    case atStart => exact ⟨0, by omega, rfl, by simp [sm_nil]; omega, by simp [sm_nil], Gw.refl _⟩
    case round =>
      obtain ⟨j, hj, rfl, hle, rfl, hg⟩ := hrel
      by_cases hlt : j < ks.length
      · have hrow' := hrow.resolve_left (fun e => by subst e; simp at hlt)
        obtain ⟨b, o, rfl, hr⟩ := hrow'
        obtain ⟨c0, c1, c2, c3, hk⟩ := coRow_get (hr.grow coLen coGr hg) j hlt
        have ht := sm_take LK.sz ks j hlt
        have hm2 := sm_rest LK.sz ks j hlt
        clear hrow hr
        by_cases hf : (LK.sz ks[j] : Int) ≤ left - (sm LK.sz (ks.take j) : Int) - (ks.length - j)
        · have hs : szR (left - (sm LK.sz (ks.take j) : Int) - (ks.length - j)) (LK.sz ks[j]) = left - (sm LK.sz (ks.take j) : Int) - (ks.length - j) - LK.sz ks[j] := if_pos hf
          have HS := Lib.hid hs
          have HT := Lib.hid ht
          clear hs ht
          go_wp2_with fail
          refine (ih ks[j] (List.getElem_mem hlt) _ _ hk (by omega) (by omega)).mono ?_
          rintro e w1 ⟨he, hg1⟩
          rw [HS.out] at he
          subst he
          have hg2 := hg.trans hg1
          have hp : 0 ≤ left - (sm LK.sz (ks.take j) : Int) - (ks.length - j) - LK.sz ks[j] := by omega
          go_wp2_with fail
          go_roundw
          case rel => exact ⟨j + 1, by omega, by go_num, by have := HT.out; omega, by have := HT.out; congr 1; omega, hg2⟩
          case measure => simp [intOf]; omega
        · have hs : szR (left - (sm LK.sz (ks.take j) : Int) - (ks.length - j)) (LK.sz ks[j]) = -1 := if_neg hf
          have HS := Lib.hid hs
          have HT := Lib.hid ht
          clear hs ht
          go_wp2_with fail
          refine (ih ks[j] (List.getElem_mem hlt) _ _ hk (by omega) (by omega)).mono ?_
          rintro e w1 ⟨he, hg1⟩
          rw [HS.out] at he
          subst he
          have hg2 := hg.trans hg1
          go_wp2_with fail
          go_ret
          exact ⟨ret_int (by have := HT.out; unfold szR; rw [if_neg (by omega)]), hg2⟩
      · obtain rfl : j = ks.length := by omega
        go_wp2_with fail
        go_ret
        exact ⟨ret_int (by rw [List.take_length] at hle ⊢; unfold szR; rw [if_pos (by omega)]; omega), hg⟩

set_option maxRecDepth 100000 in
theorem szCore_of (u : LK) (ih : ∀ (w : World) (left : Int), coSl w u.a u.cap u.ks → 0 ≤ left → left ≤ 1048576 → Calls Tryd.prog 25 #[.slice u.a u.ks.length u.cap, .int .i64 left] w (KSz w left (sm LK.sz u.ks)))
    (w : World) (left : Int) (h : u.Ok w) (h0 : 0 ≤ left) (h1 : left ≤ 1048576) : Calls Tryd.prog 14 #[u.val, .int .i64 left] w (KSz w left u.sz) := by
  have hdl := h.dl
  have hK := Lib.hid h.kids
  have HZ := Lib.hid u.sz_eq
  clear h
  obtain ⟨x3, hx3⟩ : ∃ x, x = sm LK.sz u.ks := ⟨_, rfl⟩
  have HZ2 : u.sz = u.ds.length + x3 := by rw [HZ.out, hx3]
  have HZ2 := Lib.hid HZ2
  have HX3 := Lib.hid hx3
  clear hx3
  have hg0 : Gw w (w.alloc (u.obj 27)) := (Gw.refl w).alloc _
  have hB := BoxK.new w u 27
  by_cases hsm : left < u.ds.length
  · have HS1 := Lib.hid (show szR left u.ds.length = -1 from if_neg (by omega))
    go_enter Tryd.func14, Tryd.ntmps14
    go_upto_region 2 with (fail)
    generalize w.alloc (.cells #[.int .i64 u.k, .int .i64 u.v, .slice u.da u.ds.length u.dc, .slice u.a u.ks.length u.cap] 27) = wA at *
    obtain ⟨p0, p1, p2, p3⟩ := hB.c
    go_wp2_with fail
    refine (laws_szNumS u.ds.length hdl _ _ _ _ h0 h1).mono ?_
    rintro e w1 ⟨he, hg1⟩
    rw [HS1.out] at he
    subst he
    go_wp2_with fail
    go_ret
    exact ⟨ret_int (by have := HZ2.out; unfold szR; rw [if_neg (by omega)]), hg0.trans hg1⟩
  have hsm2 : 0 ≤ left - u.ds.length := by omega
  have HS1 := Lib.hid (show szR left u.ds.length = left - u.ds.length from if_pos (by omega))
  by_cases hf3 : (x3 : Int) ≤ left - u.ds.length
  rotate_left
  · have HS3 := Lib.hid (show szR (left - u.ds.length) x3 = -1 from if_neg hf3)
    go_enter Tryd.func14, Tryd.ntmps14
    go_upto_region 2 with (fail)
    generalize w.alloc (.cells #[.int .i64 u.k, .int .i64 u.v, .slice u.da u.ds.length u.dc, .slice u.a u.ks.length u.cap] 27) = wA at *
    obtain ⟨p0, p1, p2, p3⟩ := hB.c
    go_wp2_with fail
    refine (laws_szNumS u.ds.length hdl _ _ _ _ h0 h1).mono ?_
    rintro e w1 ⟨he, hg1⟩
    rw [HS1.out] at he
    subst he
    have hg2 := hg0.trans hg1
    obtain ⟨p0, p1, p2, p3⟩ := (hB.grow hg1).c
    go_wp2_with fail
    refine (ih _ _ (hK.out.grow coLen coGr hg2) hsm2 (by omega)).mono ?_
    rintro e w3 ⟨he, hg3⟩
    rw [← HX3.out, HS3.out] at he
    subst he
    go_wp2_with fail
    go_ret
    exact ⟨ret_int (by have := HZ2.out; unfold szR; rw [if_neg (by omega)]), hg2.trans hg3⟩
  have HS3 := Lib.hid (show szR (left - u.ds.length) x3 = left - u.ds.length - x3 from if_pos hf3)
  have hp3 : 0 ≤ left - u.ds.length - x3 := by omega
  go_enter Tryd.func14, Tryd.ntmps14
  go_upto_region 2 with (fail)
  generalize w.alloc (.cells #[.int .i64 u.k, .int .i64 u.v, .slice u.da u.ds.length u.dc, .slice u.a u.ks.length u.cap] 27) = wA at *
  obtain ⟨p0, p1, p2, p3⟩ := hB.c
  go_wp2_with fail
  refine (laws_szNumS u.ds.length hdl _ _ _ _ h0 h1).mono ?_
  rintro e w1 ⟨he, hg1⟩
  rw [HS1.out] at he
  subst he
  have hg2 := hg0.trans hg1
  obtain ⟨p0, p1, p2, p3⟩ := (hB.grow hg1).c
  go_wp2_with fail
  refine (ih _ _ (hK.out.grow coLen coGr hg2) hsm2 (by omega)).mono ?_
  rintro e w3 ⟨he, hg3⟩
  rw [← HX3.out, HS3.out] at he
  subst he
  go_wp2_with fail
  go_ret
  exact ⟨ret_int (by have := HZ2.out; unfold szR; rw [if_pos (by omega)]; omega), hg2.trans hg3⟩

theorem laws_szCore (t : LK) : ∀ (w : World) (left : Int), t.Ok w → 0 ≤ left → left ≤ 1048576 → Calls Tryd.prog 14 #[t.val, .int .i64 left] w (KSz w left t.sz) := by
  refine LK.ind (P := fun t => ∀ (w : World) (left : Int), t.Ok w → 0 ≤ left → left ≤ 1048576 → Calls Tryd.prog 14 #[t.val, .int .i64 left] w (KSz w left t.sz)) (fun k v da dc ds a c ks ih => ?_) t
  exact szCore_of (.mk k v da dc ds a c ks) (fun w left h => szCoreS_of ks ih w a c left h)

def ToK (w : World) (t : LK) (e : Ending) (w' : World) : Prop := ∃ u : LK, e = .returned u.val ∧ u.co = t.co ∧ u.New w.heap.size w' ∧ Gw w w'
def ToKS (w : World) (ks : List LK) (e : Ending) (w' : World) : Prop := ∃ (us : List LK) (a : Option Addr) (cap : Nat), e = .returned (.slice a us.length cap) ∧ us.map LK.co = ks.map LK.co ∧ coNew w.heap.size w' a cap us ∧ Gw w w'

theorem toCoreS_of (ks : List LK) (ih : ∀ t ∈ ks, ∀ (w : World), t.Ok w → Calls Tryd.prog 16 #[t.val] w (ToK w t)) (w : World) (a : Option Addr) (cap : Nat) (h : coSl w a cap ks) (hl : ks.length ≤ 1048576) :
    Calls Tryd.prog 30 #[.slice a ks.length cap] w (ToKS w ks) := by
  obtain ⟨_, _, hrow⟩ := h
  obtain ⟨i0, hi, hz0, hz1, hz2⟩ := info_parts (P := Tryd.prog) (e := 42) (z := .agg #[.int .i64 0, .int .i64 0, .slice none 0 0, .slice none 0 0]) (size := 4) (bytes := 64) (by kernel_rfl)
  have hmk : ∀ W : World, (Instr.makeSlice 37 (.int .i64 (ks.length : Int)) (.int .i64 (ks.length : Int))).run Tryd.prog W = .ok (.slice (some ⟨W.heap.size, 0, none⟩) ks.length ks.length) (W.alloc (.cells (madeCells #[.int .i64 0, .int .i64 0, .slice none 0 0, .slice none 0 0] (ks.length * 4)) 42)) := fun W => by
    have hr := run_make (P := Tryd.prog) W 37 42 i0 _ Tryd.underlying37 hi hz0 .i64 .i64 (ks.length : Int) (ks.length : Int) (by omega) (Int.le_refl _) (by rw [hz2]; omega) (by omega)
    rw [Int.toNat_natCast, hz1] at hr
    exact hr
  have HI := Lib.hid hi
  clear hi hz0 hz1 hz2
  go_enter Tryd.func30, Tryd.ntmps30
  go_wp2_with fail
  have hgw0 : Gw w (w.alloc (.cells (madeCells #[.int .i64 0, .int .i64 0, .slice none 0 0, .slice none 0 0] (ks.length * 4)) 42)) := (Gw.refl w).alloc _
  go_loopw [4] (fun i wr => ∃ us : List LK, i = .int .i64 us.length ∧ us.map LK.co = (ks.take us.length).map LK.co ∧ gFill 4 coE LK.Ok LK.bl wr w.heap.size ks.length us ∧ Gw w wr) (fun i _ => ks.length - (intOf i).toNat)
  case atStart => exact ⟨[], rfl, rfl, gFill.start _ _ _ ⟨_, _, heap_alloc_new _ _, by rw [size_madeCells]⟩, hgw0⟩
  case round =>
    obtain ⟨us, rfl, hty, hfill, hg⟩ := hrel
    have HT := Lib.hid hty
    have HF := Lib.hid hfill
    have hj : us.length ≤ ks.length := hfill.1
    clear hty hfill hgw0 HI hmk
    by_cases hlt : us.length < ks.length
    · have hrow' := hrow.resolve_left (fun e => by subst e; simp at hlt)
      obtain ⟨b, o, rfl, hr⟩ := hrow'
      obtain ⟨c0, c1, c2, c3, hk⟩ := coRow_get (hr.grow coLen coGr hg) us.length hlt
      clear hrow
      go_wp2_with fail
      refine (ih ks[us.length] (List.getElem_mem hlt) _ hk).mono ?_
      rintro e w1 ⟨u, rfl, hu, hnew, hg1⟩
      have HU := Lib.hid hu
      have HN := Lib.hid hnew
      clear hu hnew c0 c1 c2 c3
      have hF1 := HF.out.grow coLen coGr hg1
      obtain ⟨v0, x0⟩ := hF1.room hlt 0 (by omega)
      obtain ⟨v1, x1⟩ := hF1.room hlt 1 (by omega)
      obtain ⟨v2, x2⟩ := hF1.room hlt 2 (by omega)
      obtain ⟨v3, x3⟩ := hF1.room hlt 3 (by omega)
      rw [Nat.add_zero] at x0
      have y0 := hF1.free (us.length * 4)
      have y1 := hF1.free (us.length * 4 + 1)
      have y2 := hF1.free (us.length * 4 + 2)
      have y3 := hF1.free (us.length * 4 + 3)
      have HF1 := Lib.hid hF1
      clear hF1
      go_wp2_with fail
      go_roundw
      case rel =>
        have hl1 : us.length + 1 = (us ++ [u]).length := by simp
        refine ⟨us ++ [u], by rw [← hl1]; go_num, ?_, ?_, ?_⟩
        · rw [← hl1, List.take_succ_eq_append_getElem hlt, List.map_append, List.map_append, HT.out]; simp [HU.out]
        · have := HF1.out.put coLen coFr hlt HN.out (fun b hb => ((HF.out.2.2.2.2 b hb).2).lt) HF.out.lt
          exact this
        · exact ((((Below.setCell (hg.trans hg1) (by simp) _).setCell (by simp) _).setCell (by simp) _).setCell (by simp) _)
      case measure => simp [intOf]; omega
    · have hall : us.length = ks.length := by omega
      have HA := Lib.hid hall
      clear hall
      have hdone := HF.out.done (cap := ks.length) (B := w.heap.size) hj (by unfold maxLen; omega) (Nat.le_refl _)
      have HD := Lib.hid hdone
      clear hdone
      go_wp2_with fail
      go_ret
      exact ⟨us, _, ks.length, ret_sl HA.out.symm, by rw [HT.out, HA.out, List.take_length], HD.out, hg⟩

set_option maxRecDepth 100000 in
set_option maxHeartbeats 1000000 in
theorem toCore_of (t : LK) (ih : ∀ (w : World), coSl w t.a t.cap t.ks → Calls Tryd.prog 30 #[.slice t.a t.ks.length t.cap] w (ToKS w t.ks)) (hs : t.sz ≤ 1048576) (w : World) (h : t.Ok w) : Calls Tryd.prog 16 #[t.val] w (ToK w t) := by
  have hN := Lib.hid h.dat
  have hK := Lib.hid h.kids
  have hO := Lib.hid h
  have z2 : t.ds.length ≤ 1048576 := by have := t.sz_eq; omega
  clear h
  go_enter Tryd.func16, Tryd.ntmps16
  go_wp2_with fail
  have BP0 : (((w.alloc (t.obj 27)).alloc (.cells #[.int .i64 0, .int .i64 0, .slice none 0 0, .slice none 0 0] 42)).alloc (.cells #[.int .i64 t.k, .int .i64 t.v, .slice none 0 0, .slice none 0 0] 42)).heap[w.heap.size]? = some (.cells #[.int .i64 t.k, .int .i64 t.v, .slice t.da t.ds.length t.dc, .slice t.a t.ks.length t.cap] 27 (0, 0)) := by
    rw [Below.heap_alloc _ _ _ (by simp; omega), Below.heap_alloc _ _ _ (by simp)]
    exact heap_alloc_new _ _
  have BO0 : (((w.alloc (t.obj 27)).alloc (.cells #[.int .i64 0, .int .i64 0, .slice none 0 0, .slice none 0 0] 42)).alloc (.cells #[.int .i64 t.k, .int .i64 t.v, .slice none 0 0, .slice none 0 0] 42)).heap[w.heap.size + 1 + 1]? = some (.cells #[.int .i64 t.k, .int .i64 t.v, .slice none 0 0, .slice none 0 0] 42 (0, 0)) := kheap_at _ _ _ _ rfl (by simp)
  have BR0 : (((w.alloc (t.obj 27)).alloc (.cells #[.int .i64 0, .int .i64 0, .slice none 0 0, .slice none 0 0] 42)).alloc (.cells #[.int .i64 t.k, .int .i64 t.v, .slice none 0 0, .slice none 0 0] 42)).heap[w.heap.size + 1]? = some (.cells #[.int .i64 0, .int .i64 0, .slice none 0 0, .slice none 0 0] 42 (0, 0)) := by
    rw [Below.heap_alloc _ _ _ (by simp)]
    exact kheap_at _ _ _ _ rfl (by simp)
  have gW : Gw w (((w.alloc (t.obj 27)).alloc (.cells #[.int .i64 0, .int .i64 0, .slice none 0 0, .slice none 0 0] 42)).alloc (.cells #[.int .i64 t.k, .int .i64 t.v, .slice none 0 0, .slice none 0 0] 42)) := (((Gw.refl w).alloc _).alloc _).alloc _
  have sz0 : (((w.alloc (t.obj 27)).alloc (.cells #[.int .i64 0, .int .i64 0, .slice none 0 0, .slice none 0 0] 42)).alloc (.cells #[.int .i64 t.k, .int .i64 t.v, .slice none 0 0, .slice none 0 0] 42)).heap.size = w.heap.size + 3 := by simp
  generalize (((w.alloc (.cells #[.int .i64 t.k, .int .i64 t.v, .slice t.da t.ds.length t.dc, .slice t.a t.ks.length t.cap] 27)).alloc (.cells #[.int .i64 0, .int .i64 0, .slice none 0 0, .slice none 0 0] 42)).alloc (.cells #[.int .i64 t.k, .int .i64 t.v, .slice none 0 0, .slice none 0 0] 42)) = w0 at *
  refine (laws_toNumS t.ds _ t.da t.dc (hN.out.grow gW) z2).mono ?_
  rintro e w2 ⟨an, cn, rfl, ns, hg⟩
  have hs12 := hg.size
  rw [sz0] at ns
  have BP := Lib.hid ((hg.block _ (by omega)).trans BP0)
  have BO := Lib.hid ((hg.block _ (by omega)).trans BO0)
  have BR := Lib.hid ((hg.block _ (by omega)).trans BR0)
  have NS := Lib.hid ns
  have gW2 := gW.trans hg
  have p7 : w2.cell? ⟨w.heap.size, 3, none⟩ = some (.slice t.a t.ks.length t.cap) := cell_of_row _ _ 3 _ _ _ BP.out
  have q6 : w2.cell? ⟨w.heap.size + 1 + 1, 2, none⟩ = some (.slice none 0 0) := cell_of_row _ _ 2 _ _ _ BO.out
  have f6 : w2.frozen? ⟨w.heap.size + 1 + 1, 2, none⟩ = false := by simp [World.frozen?, BO.out]
  clear BP0 BO0 BR0 gW hg ns
  go_wp2_with fail
  clear p7 q6 f6
  have BO1 : (w2.setCell ⟨w.heap.size + 1 + 1, 2, none⟩ (.slice an t.ds.length cn)).heap[w.heap.size + 1 + 1]? = some (.cells #[.int .i64 t.k, .int .i64 t.v, .slice an t.ds.length cn, .slice none 0 0] 42 (0, 0)) := kset_at BO.out
  have BR1 : (w2.setCell ⟨w.heap.size + 1 + 1, 2, none⟩ (.slice an t.ds.length cn)).heap[w.heap.size + 1]? = some (.cells #[.int .i64 0, .int .i64 0, .slice none 0 0, .slice none 0 0] 42 (0, 0)) := by
    rw [Below.heap_setCell _ _ _ _ (by simp)]
    exact BR.out
  have NS1 := NS.out.same (by decide) nLen nFr (w' := w2.setCell ⟨w.heap.size + 1 + 1, 2, none⟩ (.slice an t.ds.length cn)) (fun c hc => by
    have := (NS.out.2.2 c hc).1
    rw [Below.heap_setCell _ _ _ _ (by simp; omega)])
  replace gW2 : Gw w (w2.setCell ⟨w.heap.size + 1 + 1, 2, none⟩ (.slice an t.ds.length cn)) := Below.setCell gW2 (by simp; omega) _
  have z2' : w0.heap.size ≤ (w2.setCell ⟨w.heap.size + 1 + 1, 2, none⟩ (.slice an t.ds.length cn)).heap.size := by simpa [World.setCell] using hs12
  clear BP BO NS BR hs12
  generalize w2.setCell ⟨w.heap.size + 1 + 1, 2, none⟩ (.slice an t.ds.length cn) = W2 at *
  refine (ih _ (hK.out.grow coLen coGr gW2)).mono ?_
  rintro e w3 ⟨us, ak, ck, rfl, hus, nk, hg⟩
  have hs23 := hg.size
  have BO := Lib.hid ((hg.block _ (by omega)).trans BO1)
  have BR := Lib.hid ((hg.block _ (by omega)).trans BR1)
  have NK := Lib.hid nk
  have NS := Lib.hid (gNewSl.grow nLen nGr NS1 hg)
  have HU := Lib.hid hus
  have HB2 := Lib.hid (fun b (hb : b ∈ nbl nB an t.ds) => (NS1.2.2 b hb).2.lt)
  have gW3 := gW2.trans hg
  have q7 : w3.cell? ⟨w.heap.size + 1 + 1, 3, none⟩ = some (.slice none 0 0) := cell_of_row _ _ 3 _ _ _ BO.out
  have f7 : w3.frozen? ⟨w.heap.size + 1 + 1, 3, none⟩ = false := by simp [World.frozen?, BO.out]
  have q0 : w3.cell? ⟨w.heap.size + 1 + 1, 0, none⟩ = some (.int .i64 t.k) := cell_of_row _ _ 0 _ _ _ BO.out
  have q1 : w3.cell? ⟨w.heap.size + 1 + 1, 1, none⟩ = some (.int .i64 t.v) := cell_of_row _ _ 1 _ _ _ BO.out
  have q2 : w3.cell? ⟨w.heap.size + 1 + 1, 2, none⟩ = some (.slice an t.ds.length cn) := cell_of_row _ _ 2 _ _ _ BO.out
  have r0 : w3.cell? ⟨w.heap.size + 1, 0, none⟩ = some (.int .i64 0) := cell_of_row _ _ 0 _ _ _ BR.out
  have x0 : w3.frozen? ⟨w.heap.size + 1, 0, none⟩ = false := by simp [World.frozen?, BR.out]
  have r1 : w3.cell? ⟨w.heap.size + 1, 1, none⟩ = some (.int .i64 0) := cell_of_row _ _ 1 _ _ _ BR.out
  have x1 : w3.frozen? ⟨w.heap.size + 1, 1, none⟩ = false := by simp [World.frozen?, BR.out]
  have r2 : w3.cell? ⟨w.heap.size + 1, 2, none⟩ = some (.slice none 0 0) := cell_of_row _ _ 2 _ _ _ BR.out
  have x2 : w3.frozen? ⟨w.heap.size + 1, 2, none⟩ = false := by simp [World.frozen?, BR.out]
  have r3 : w3.cell? ⟨w.heap.size + 1, 3, none⟩ = some (.slice none 0 0) := cell_of_row _ _ 3 _ _ _ BR.out
  have x3 : w3.frozen? ⟨w.heap.size + 1, 3, none⟩ = false := by simp [World.frozen?, BR.out]
  clear BO1 BR1 NS1 gW2 hg nk hus
  go_wp2_with fail
  have BR3 : (w3.setCell ⟨w.heap.size + 1 + 1, 3, none⟩ (.slice ak us.length ck)).heap[w.heap.size + 1]? = some (.cells #[.int .i64 0, .int .i64 0, .slice none 0 0, .slice none 0 0] 42 (0, 0)) := by
    rw [Below.heap_setCell _ _ _ _ (by simp)]
    exact BR.out
  have BRF : (((((w3.setCell ⟨w.heap.size + 1 + 1, 3, none⟩ (.slice ak us.length ck)).setCell ⟨w.heap.size + 1, 0, none⟩ (.int .i64 t.k)).setCell ⟨w.heap.size + 1, 1, none⟩ (.int .i64 t.v)).setCell ⟨w.heap.size + 1, 2, none⟩ (.slice an t.ds.length cn)).setCell ⟨w.heap.size + 1, 3, none⟩ (.slice ak us.length ck)).heap[w.heap.size + 1]? = some (.cells #[.int .i64 t.k, .int .i64 t.v, .slice an t.ds.length cn, .slice ak us.length ck] 42 (0, 0)) := (kset_at (kset_at (kset_at (kset_at BR3))))
  have gWF : Gw w (((((w3.setCell ⟨w.heap.size + 1 + 1, 3, none⟩ (.slice ak us.length ck)).setCell ⟨w.heap.size + 1, 0, none⟩ (.int .i64 t.k)).setCell ⟨w.heap.size + 1, 1, none⟩ (.int .i64 t.v)).setCell ⟨w.heap.size + 1, 2, none⟩ (.slice an t.ds.length cn)).setCell ⟨w.heap.size + 1, 3, none⟩ (.slice ak us.length ck)) := (((((Below.setCell gW3 (by simp; omega) _).setCell (by simp) _).setCell (by simp) _).setCell (by simp) _).setCell (by simp) _)
  have far : ∀ c, w.heap.size + 3 ≤ c → (((((w3.setCell ⟨w.heap.size + 1 + 1, 3, none⟩ (.slice ak us.length ck)).setCell ⟨w.heap.size + 1, 0, none⟩ (.int .i64 t.k)).setCell ⟨w.heap.size + 1, 1, none⟩ (.int .i64 t.v)).setCell ⟨w.heap.size + 1, 2, none⟩ (.slice an t.ds.length cn)).setCell ⟨w.heap.size + 1, 3, none⟩ (.slice ak us.length ck)).heap[c]? = w3.heap[c]? := fun c hc => by
    rw [Below.heap_setCell _ _ _ _ (by simp; omega), Below.heap_setCell _ _ _ _ (by simp; omega), Below.heap_setCell _ _ _ _ (by simp; omega), Below.heap_setCell _ _ _ _ (by simp; omega), Below.heap_setCell _ _ _ _ (by simp; omega)]
  clear q0 q1 q2 q7 f7 r0 r1 r2 r3 x0 x1 x2 x3 BR3 gW3
  generalize (((((w3.setCell ⟨w.heap.size + 1 + 1, 3, none⟩ (.slice ak us.length ck)).setCell ⟨w.heap.size + 1, 0, none⟩ (.int .i64 t.k)).setCell ⟨w.heap.size + 1, 1, none⟩ (.int .i64 t.v)).setCell ⟨w.heap.size + 1, 2, none⟩ (.slice an t.ds.length cn)).setCell ⟨w.heap.size + 1, 3, none⟩ (.slice ak us.length ck)) = W3 at *
  have e0 : W3.cell? ⟨w.heap.size + 1, 0, none⟩ = some (.int .i64 t.k) := cell_of_row _ _ 0 _ _ _ BRF
  have e1 : W3.cell? ⟨w.heap.size + 1, 1, none⟩ = some (.int .i64 t.v) := cell_of_row _ _ 1 _ _ _ BRF
  have e2 : W3.cell? ⟨w.heap.size + 1, 2, none⟩ = some (.slice an t.ds.length cn) := cell_of_row _ _ 2 _ _ _ BRF
  have e3 : W3.cell? ⟨w.heap.size + 1, 3, none⟩ = some (.slice ak us.length ck) := cell_of_row _ _ 3 _ _ _ BRF
  obtain ⟨⟨hk, hv, _⟩, _⟩ := (LK.ok_iff _).1 hO.out
  refine bodyPost_ret (v := (LK.mk t.k t.v an cn t.ds ak ck us).val) (by simp [results, Tryd.results16, go_sem, e0, e1, e2, e3]; exact ⟨rfl, rfl, ⟨rfl, rfl, rfl⟩, rfl, rfl, rfl⟩) rfl ⟨.mk t.k t.v an cn t.ds ak ck us, rfl, ?_, ?_, gWF⟩
  · rw [LK.co_eq, LK.co_eq t]
    show Co.mk t.k t.v t.ds (us.map LK.co) = _
    rw [HU.out]
  · exact LK.new_mk hk hv ((NS.out.same (by decide) nLen nFr fun c hc => far c (NS.out.2.2 c hc).1))
      (NK.out.same (by decide) coLen coFr fun c hc => far c (by have := (NK.out.2.2 c hc).1; omega)) HB2.out (by omega) (by omega)

theorem laws_toCore (t : LK) : ∀ (w : World), t.Ok w → t.sz ≤ 1048576 → Calls Tryd.prog 16 #[t.val] w (ToK w t) := by
  refine LK.ind (P := fun t => ∀ (w : World), t.Ok w → t.sz ≤ 1048576 → Calls Tryd.prog 16 #[t.val] w (ToK w t)) (fun k v da dc ds a c ks ih w h hs => ?_) t
  have hz : sm LK.sz ks ≤ 1048576 := by have := LK.sz_eq (.mk k v da dc ds a c ks); rw [this] at hs; exact Nat.le_trans (Nat.le_add_left _ _) hs
  have h1 := sm_ge LK.sz ks
  exact toCore_of (.mk k v da dc ds a c ks) (fun w1 h1 => toCoreS_of ks (fun u hu w2 h2 => ih u hu w2 h2 (by have := sm_mem LK.sz hu; omega)) w1 a c h1 (by omega)) hs w h

set_option maxRecDepth 100000 in
theorem eqCoreS_of (xs ys : List LK) (ih : ∀ t ∈ xs, ∀ (u : LK) (w : World), t.Ok w → u.Ok w → t.co = u.co → Calls Tryd.prog 18 #[t.val, u.val] w (TrueGw w))
    (w : World) (n : Nat) (hx : xs.length = n) (hy : ys.length = n) (a b : Option Addr) (c d : Nat) (ho : coSl w a c xs) (hp : coSl w b d ys) (he : xs.map LK.co = ys.map LK.co) :
    Calls Tryd.prog 44 #[.slice a n c, .slice b n d] w (TrueGw w) := by
  have hn : n ≤ 9223372036854775807 := hx ▸ Nat.le_trans ho.1 ho.2.1
  have hr1 := ho.2.2
  have hr2 := hp.2.2
  have HX := Lib.hid hx
  have HY := Lib.hid hy
  have HE := Lib.hid he
  clear hx hy he ho hp
  go_enter Tryd.func44, Tryd.ntmps44
  go_wp2_with fail
  go_loopw [5] (fun i wr => ∃ j : Nat, j ≤ n ∧ i = .int .i64 j ∧ Gw w wr) (fun i _ => n - (intOf i).toNat)
  case atStart => exact ⟨0, by omega, rfl, Gw.refl _⟩
  case round =>
    obtain ⟨j, hj, rfl, hg⟩ := hrel
    by_cases hlt : j < n
    · have hx := HX.out
      have hy := HY.out
      obtain ⟨b1, o1, rfl, r1⟩ := hr1.resolve_left (fun e => by subst e; simp at hx; omega)
      obtain ⟨b2, o2, rfl, r2⟩ := hr2.resolve_left (fun e => by subst e; simp at hy; omega)
      have hjx : j < xs.length := by omega
      have hjy : j < ys.length := by omega
      obtain ⟨c0, c1, c2, c3, hk⟩ := coRow_get (r1.grow coLen coGr hg) j hjx
      obtain ⟨d0, d1, d2, d3, hl⟩ := coRow_get (r2.grow coLen coGr hg) j hjy
      clear hr1 hr2 hx hy
      go_wp2_with fail
      go_still_tail 8, (by kernel_rfl)
      change wpList _ _ _ _ _ wr.drew
      have hk' : LK.Ok wr.drew xs[j] := hk.drew
      have hl' : LK.Ok wr.drew ys[j] := hl.drew
      have hg' : Gw w wr.drew := hg.drew
      generalize wr.drew = w2 at hk' hl' hg' ⊢
      have HK := Lib.hid hk'
      have HL := Lib.hid hl'
      clear c0 c1 c2 c3 d0 d1 d2 d3 hk hl hg hk' hl' r1 r2
      have HM := Lib.hid (kmap_get HE.out j hjx hjy)
      go_wp2_with fail
      refine (ih xs[j] (List.getElem_mem hjx) ys[j] _ HK.out HL.out HM.out).mono ?_
      rintro e w1 ⟨rfl, hg1⟩
      have hg2 := hg'.trans hg1
      go_wp2_with fail
      go_roundw
      case rel => exact ⟨j + 1, by omega, by go_num, hg2⟩
      case measure => simp [intOf]; omega
    · obtain rfl : j = n := by omega
      go_wp2_with fail
      go_ret
      exact ⟨rfl, hg⟩

set_option maxRecDepth 100000 in
theorem eqCore_of (t u : LK) (ih : ∀ (w : World) (n : Nat), t.ks.length = n → u.ks.length = n → coSl w t.a t.cap t.ks → coSl w u.a u.cap u.ks → Calls Tryd.prog 44 #[.slice t.a n t.cap, .slice u.a n u.cap] w (TrueGw w))
    (w : World) (h1 : t.Ok w) (h2 : u.Ok w) (he : t.co = u.co) : Calls Tryd.prog 18 #[t.val, u.val] w (TrueGw w) := by
  have K1 := Lib.hid h1.kids
  have K2 := Lib.hid h2.kids
  have S1 := Lib.hid h1.dat
  have S2 := Lib.hid h2.dat
  obtain ⟨k, v, da, dc, ds, a, c, ks⟩ := t
  obtain ⟨k', v', da', dc', ds', a', c', ks'⟩ := u
  rw [LK.co_eq, LK.co_eq] at he
  simp only [LK.k, LK.v, LK.ds, LK.ks, Co.mk.injEq] at he
  obtain ⟨rfl, rfl, rfl, hk⟩ := he
  have hl : ks.length = ks'.length := by simpa using congrArg List.length hk
  have HL := Lib.hid hl.symm
  clear hk
  show Calls Tryd.prog 18 #[.agg #[.int .i64 k, .int .i64 v, .slice da ds.length dc, .slice a ks.length c], .agg #[.int .i64 k, .int .i64 v, .slice da' ds.length dc', .slice a' ks'.length c']] w (TrueGw w)
  have hg0 : Gw w ((w.alloc (.cells #[.int .i64 k, .int .i64 v, .slice da ds.length dc, .slice a ks.length c] 42)).alloc (.cells #[.int .i64 k, .int .i64 v, .slice da' ds.length dc', .slice a' ks'.length c'] 42)) := ((Gw.refl w).alloc _).alloc _
  rw [hl] at hg0 ⊢
  clear hl h1 h2
  go_enter Tryd.func18, Tryd.ntmps18
  go_wp2_with fail
  refine (laws_eqNumS ds _ da da' dc dc' (S1.out.grow hg0) (S2.out.grow hg0)).mono ?_
  rintro e w2 ⟨rfl, hg2⟩
  obtain ⟨hc2, _⟩ := bcell hg2
  replace hg2 := hg0.trans hg2
  go_wp2_with fail
  refine (ih _ _ HL.out.symm rfl (K1.out.grow coLen coGr hg2) (K2.out.grow coLen coGr hg2)).mono ?_
  rintro e w3 ⟨rfl, hg3⟩
  go_wp2_with fail
  go_ret
  exact ⟨rfl, hg2.trans hg3⟩

theorem laws_eqCore (t : LK) : ∀ (u : LK) (w : World), t.Ok w → u.Ok w → t.co = u.co → Calls Tryd.prog 18 #[t.val, u.val] w (TrueGw w) := by
  refine LK.ind (P := fun t => ∀ (u : LK) (w : World), t.Ok w → u.Ok w → t.co = u.co → Calls Tryd.prog 18 #[t.val, u.val] w (TrueGw w)) (fun k v da dc ds a c ks ih u w h1 h2 he => ?_) t
  refine eqCore_of (.mk k v da dc ds a c ks) u (fun w1 l hm hm' s1 s2 => ?_) w h1 h2 he
  refine eqCoreS_of ks u.ks (fun x hx y w2 => ih x hx y w2) w1 l hm hm' a u.a c u.cap s1 s2 ?_
  have := he
  rw [LK.co_eq, LK.co_eq u] at this
  simpa [LK.ks] using (Co.mk.inj this).2.2.2

end Go.Proofs.YtkpbiifikkbaeaaDoor.Con
