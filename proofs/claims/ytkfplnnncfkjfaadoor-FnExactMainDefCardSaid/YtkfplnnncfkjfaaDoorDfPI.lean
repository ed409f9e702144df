/-
  The place of a name among definitions (the model's l03Named, the program's defIndex), and when a program is valid, as a function on programs without addresses. No condition but that the list lies in memory.
  Contracts of the model's l03Program and ValidProgram. No condition but that the program lies in memory.
  Contract of the program's ValidProgram. No condition but that the program lies in memory and that the table of forms is laid.
-/
import Derived.Test.YtkfplnnncfkjfaaDoorDfEq
import Derived.Test.YtkfplnnncfkjfaaDoorDaIx
import Derived.Test.YtkfplnnncfkjfaaDoorTmVal
import Derived.Outline
import Derived.LoopTactic
import Derived.Test.YtkfplnnncfkjfaaDoorTmNds
import Derived.Test.YtkfplnnncfkjfaaDoorDaOkS
import Derived.Deep.RegionHeld3
import Derived.Deep.Cut
import Derived.Test.YtkfplnnncfkjfaaDoorDaOkP
import Derived.Test.YtkfplnnncfkjfaaDoorTmSize
namespace Go.Proofs.YtkfplnnncfkjfaaDoor.Con
open Go.RowKit
set_option linter.unusedVariables false

theorem ixF_found {nm : ByteArray} {ds : List LF} {j : Nat} (hj : j < ds.length) (h : ds[j].n = nm) (hb : ∀ i (hi : i < ds.length), i < j → ds[i].n ≠ nm) : IsIx nm (ds.map LF.n) j :=
  .inl ⟨j, rfl, by rw [List.getElem?_map, List.getElem?_eq_getElem hj]; simp [h], fun i hi e => by
    rw [List.getElem?_map, List.getElem?_eq_getElem (by omega : i < ds.length)] at e
    exact hb i (by omega) hi (by simpa using e)⟩
theorem ixF_none {nm : ByteArray} {ds : List LF} (hb : ∀ i (hi : i < ds.length), ds[i].n ≠ nm) : IsIx nm (ds.map LF.n) (-1) :=
  .inr ⟨rfl, fun i e => by
    rcases Nat.lt_or_ge i ds.length with hi | hi
    · rw [List.getElem?_map, List.getElem?_eq_getElem hi] at e
      exact hb i hi (by simpa using e)
    · rw [List.getElem?_map, List.getElem?_eq_none hi] at e
      cases e⟩

theorem spec_namedF (ds : List LF) (w : World) (a : Option Addr) (cap : Nat) (nm : ByteArray) (h : dfSl w a cap ds) : Calls Tryd.prog 28 #[.slice a ds.length cap, .string nm] w (IxGw nm (ds.map LF.n) w) := by
  have hl : ds.length ≤ 9223372036854775807 := Nat.le_trans h.1 h.2.1
  have hrow := h.2.2
  clear h
  go_enter Tryd.func28, Tryd.ntmps28
  go_wp2_with fail
  go_loopw [5] (fun i wr => ∃ j : Nat, j ≤ ds.length ∧ i = .int .i64 j ∧ (∀ i (hi : i < ds.length), i < j → ds[i].n ≠ nm) ∧ Gw w wr) (fun i _ => ds.length - (intOf i).toNat)
  case atStart => exact ⟨0, by omega, rfl, fun i _ h => absurd h (by omega), Gw.refl _⟩
  case round =>
    obtain ⟨j, hj, rfl, hall, hg⟩ := hrel
    have HALL := Lib.hid hall
    clear hall
    by_cases hlt : j < ds.length
    · obtain ⟨b, o, rfl, hr⟩ := hrow.resolve_left (fun e => by subst e; simp at hlt)
      obtain ⟨c0, c1, c2, c3, c4, c5, c6, c7, c8, c9, c10, c11, _⟩ := dfRow_get (hr.grow dfLen dfGr hg) j hlt
      clear hrow hr
      by_cases he : ds[j].n = nm
      · rw [he] at c0
        have HE := Lib.hid he
        clear he
        go_wp2_with fail
        go_ret
        exact ⟨j, rfl, ixF_found hlt HE.out HALL.out, hg⟩
      · have hd := toList_ne he
        have HE := Lib.hid he
        clear he
        go_wp2_with fail
        go_roundw
        case rel =>
          refine ⟨j + 1, by omega, by go_num, fun i hi hij => ?_, hg⟩
          by_cases e : i = j
          · subst e; exact HE.out
          · exact HALL.out i hi (by omega)
        case measure => simp [intOf]; omega
    · obtain rfl : j = ds.length := by omega
      go_wp2_with fail
      go_ret
      exact ⟨-1, rfl, ixF_none fun i hi => HALL.out i hi hi, hg⟩

theorem impl_indexF1 (d : LF) (w : World) (q : Nat) (nm : ByteArray) (e0 : TypeId) (hq : w.heap[q]? = some (.cells #[.string nm] e0 (0, 0))) :
    Calls Tryd.prog 67 #[d.val, .pointer (some ⟨q, 0, none⟩)] w fun e w' => e = .returned (.bool (d.n.toList == nm.toList)) ∧ Gw w w' := by
  have c : w.cell? ⟨q, 0, none⟩ = some (.string nm) := cell_of_row _ _ 0 _ _ _ hq
  have hql : q < w.heap.size := (Array.getElem?_eq_some_iff.1 hq).1
  go_enter Tryd.func67, Tryd.ntmps67
  go_wp2_with fail
  go_ret
  exact ⟨rfl, (Gw.refl w).alloc _⟩

theorem impl_indexFuncF (ds : List LF) (w : World) (a : Option Addr) (cap : Nat) (nm : ByteArray) (q : Nat) (e0 : TypeId) (hq : w.heap[q]? = some (.cells #[.string nm] e0 (0, 0))) (h : dfSl w a cap ds) :
    Calls Tryd.prog 66 #[.slice a ds.length cap, .func (.func 67) #[] #[.pointer (some ⟨q, 0, none⟩)]] w (IxGw nm (ds.map LF.n) w) := by
  have hl : ds.length ≤ 9223372036854775807 := Nat.le_trans h.1 h.2.1
  have hrow := h.2.2
  have hql : q < w.heap.size := (Array.getElem?_eq_some_iff.1 hq).1
  have HQ := Lib.hid hq
  clear h hq
  go_enter Tryd.func66, Tryd.ntmps66
  go_wp2_with fail
  go_loopw [8] (fun i wr => ∃ j : Nat, j ≤ ds.length ∧ i = .int .i64 j ∧ (∀ i (hi : i < ds.length), i < j → ds[i].n ≠ nm) ∧ Gw w wr) (fun i _ => ds.length - (intOf i).toNat)
  case atStart => exact ⟨0, by omega, rfl, fun i _ h => absurd h (by omega), Gw.refl _⟩
  case round =>
    obtain ⟨j, hj, rfl, hall, hg⟩ := hrel
    have HALL := Lib.hid hall
    clear hall
    by_cases hlt : j < ds.length
    · obtain ⟨b, o, rfl, hr⟩ := hrow.resolve_left (fun e => by subst e; simp at hlt)
      obtain ⟨c0, c1, c2, c3, c4, c5, c6, c7, c8, c9, c10, c11, _⟩ := dfRow_get (hr.grow dfLen dfGr hg) j hlt
      have q0 : (0 : Int) ≤ j := by omega
      have q1 : (j : Int) < ds.length := by omega
      have key := impl_indexF1 ds[j] wr q nm e0 ((hg.block _ hql).trans HQ.out)
      have KEY := Lib.hid key
      clear hrow hr key
      go_wp2_with fail
      refine KEY.out.mono ?_
      rintro e w1 ⟨rfl, hg1⟩
      have hg2 := hg.trans hg1
      clear c0 c1 c2 c3 c4 c5 c6 c7 c8 c9 c10 c11
      by_cases he : ds[j].n = nm
      · have hd : (ds[j].n.toList == nm.toList) = true := by rw [he]; simp
        rw [hd]
        have HE := Lib.hid he
        clear he
        go_wp2_with fail
        go_ret
        exact ⟨j, rfl, ixF_found hlt HE.out HALL.out, hg2⟩
      · have hd := toList_ne he
        rw [hd]
        have HE := Lib.hid he
        clear he
        go_wp2_with fail
        go_roundw
        case rel =>
          refine ⟨j + 1, by omega, by go_num, fun i hi hij => ?_, hg2⟩
          by_cases e : i = j
          · subst e; exact HE.out
          · exact HALL.out i hi (by omega)
        case measure => simp [intOf]; omega
    · obtain rfl : j = ds.length := by omega
      go_wp2_with fail
      go_ret
      exact ⟨-1, rfl, ixF_none fun i hi => HALL.out i hi hi, hg⟩

theorem impl_defIndex (ds : List LF) (w : World) (a : Option Addr) (cap : Nat) (nm : ByteArray) (h : dfSl w a cap ds) : Calls Tryd.prog 32 #[.slice a ds.length cap, .string nm] w (IxGw nm (ds.map LF.n) w) := by
  have g1 : Gw w (w.alloc (.cells #[.string nm] 9)) := (Gw.refl w).alloc _
  have key := impl_indexFuncF ds _ a cap nm w.heap.size 9 (heap_alloc_new w (.cells #[.string nm] 9)) (gSl.grow dfLen dfGr h g1)
  have KEY := Lib.hid key
  have G1 := Lib.hid g1
  clear key g1 h
  go_enter Tryd.func32, Tryd.ntmps32
  go_wp2_with fail
  refine KEY.out.mono ?_
  rintro e w1 ⟨r, rfl, hr, hg⟩
  have HR := Lib.hid hr
  clear hr
  go_wp2_with fail
  go_ret
  exact ⟨r, rfl, HR.out, G1.out.trans hg⟩

def nmsF (F : List DF) : List ByteArray := F.map fun f => f.1
def dfOkB (F : List DF) (i : Nat) : Bool := match F[i]? with | some f => lowerB f.1 && (!hasB ((nmsF F).take i) f.1 && (validB f.2.1 && okT f.2.2)) | none => true
def defsB (F : List DF) : Bool := (List.range F.length).all (dfOkB F)
def progB (P : PR) : Bool := datasB P.1 && (inI P.2.length 1 8 && defsB P.2)
theorem defsB_bad {F : List DF} {i : Nat} (hi : i < F.length) (h : dfOkB F i = false) : defsB F = false := List.all_eq_false.2 ⟨i, by simpa using hi, by rw [h]; simp⟩
theorem defsB_all {F : List DF} (h : ∀ i, i < F.length → dfOkB F i = true) : defsB F = true := List.all_eq_true.2 fun i hi => h i (by simpa using hi)
theorem nms_map (fs : List LF) : nmsF (fs.map LF.df) = fs.map LF.n := by unfold nmsF; rw [List.map_map]; rfl
theorem dfOkB_eq {fs : List LF} {i : Nat} (hi : i < fs.length) : dfOkB (fs.map LF.df) i = (lowerB fs[i].n && (!hasB ((fs.map LF.n).take i) fs[i].n && (validB fs[i].t.ty && okT fs[i].u.tm))) := by
  unfold dfOkB
  rw [List.getElem?_map, List.getElem?_eq_getElem hi, nms_map]
  rfl
/-- The first place of a definition's own name. -/
theorem ix_own {fs : List LF} {i : Nat} {r : Int} (hi : i < fs.length) (h : IsIx fs[i].n (fs.map LF.n) r) : (r ≤ i ∧ 0 ≤ r) ∧ (hasB ((fs.map LF.n).take i) fs[i].n = false → r = i) ∧ (hasB ((fs.map LF.n).take i) fs[i].n = true → r < i) := by
  have own : (fs.map LF.n)[i]? = some fs[i].n := by rw [List.getElem?_map, List.getElem?_eq_getElem hi]; rfl
  rcases h with ⟨j, rfl, h1, h2⟩ | ⟨rfl, h1⟩
  · have hji : j ≤ i := Nat.le_of_not_lt fun hl => h2 i hl own
    refine ⟨⟨by omega, by omega⟩, fun hb => ?_, fun hb => ?_⟩
    · rcases Nat.lt_or_ge j i with hl | hl
      · have : hasB ((fs.map LF.n).take i) fs[i].n = true := hasB_iff.2 (List.mem_of_getElem? (i := j) (by rw [List.getElem?_take, if_pos hl]; exact h1))
        rw [hb] at this; cases this
      · omega
    · obtain ⟨x, hx, e⟩ := List.mem_iff_getElem.1 (hasB_iff.1 hb)
      have hxi : x < i := by have := hx; rw [List.length_take] at this; omega
      have : (fs.map LF.n)[x]? = some fs[i].n := by
        have h3 := List.getElem?_eq_getElem hx
        rw [List.getElem?_take, if_pos hxi] at h3
        rw [h3, e]
      rcases Nat.lt_or_ge x j with hl | hl
      · exact absurd this (h2 x hl)
      · omega
  · exact absurd own (h1 i)

end Go.Proofs.YtkfplnnncfkjfaaDoor.Con

namespace Go.Proofs.YtkfplnnncfkjfaaDoor.Con
open Go.RowKit
set_option linter.unusedVariables false

def progAt (w : World) (b o : Nat) (p : LP) : Prop := w.cell? ⟨b, o, none⟩ = some (.slice p.da p.ds.length p.dc) ∧ w.cell? ⟨b, o + 1, none⟩ = some (.slice p.fa p.fs.length p.fc) ∧ pOk w p
theorem progAt.grow {w w' : World} {b o : Nat} {p : LP} (h : progAt w b o p) (g : Gw w w') : progAt w' b o p := ⟨g.cell h.1 (cell_lt h.1), g.cell h.2.1 (cell_lt h.2.1), h.2.2.grow g⟩
theorem progB_d {p : LP} (h : datasB (p.ds.map dty) = false) : progB p.pr = false := by unfold progB LP.pr; rw [h]; rfl
theorem progB_l {p : LP} (h : inI p.fs.length 1 8 = false) : progB p.pr = false := by unfold progB LP.pr; rw [List.length_map, h]; simp
theorem progB_bad {p : LP} (h : defsB (p.fs.map LF.df) = false) : progB p.pr = false := by unfold progB LP.pr; rw [h]; simp
theorem progB_yes {p : LP} (h1 : datasB (p.ds.map dty) = true) (h2 : inI p.fs.length 1 8 = true) (h3 : defsB (p.fs.map LF.df) = true) : progB p.pr = true := by unfold progB LP.pr; rw [h1, List.length_map, h2, h3]; rfl
theorem dfRow_tm {w : World} {fs : List LF} {b o : Nat} (h : gRow 12 dfE dfOk w fs b o) (i : Nat) (hi : i < fs.length) : tmAt w b (o + i * 12 + 4) fs[i].u := by
  refine ⟨fun q v hv => ?_, (h i hi).2.2.2⟩
  have := (h i hi).1 (q + 4) v hv
  rw [show o + i * 12 + 4 + q = o + i * 12 + (q + 4) from by omega]
  exact this

set_option maxRecDepth 100000 in
set_option maxHeartbeats 2000000 in
theorem spec_progM (p : LP) (w : World) (b o : Nat) (h : progAt w b o p) : Calls Tryd.prog 27 #[.pointer (some ⟨b, o, none⟩)] w (BoolGw (progB p.pr) w) := by
  have hl : p.fs.length ≤ 9223372036854775807 := Nat.le_trans h.2.2.2.1 h.2.2.2.2.1
  have A := Lib.hid h
  obtain ⟨c0, c1, _⟩ := A.out
  clear h
  go_enter Tryd.func27, Tryd.ntmps27
  go_wp2_with fail
  refine (spec_ok p.ds _ p.da p.dc A.out.2.2.1).mono ?_
  rintro e w1 ⟨rfl, g1⟩
  have A1 := Lib.hid (A.out.grow g1)
  have G1 := Lib.hid g1
  clear c0 c1 g1
  obtain ⟨c0, c1, _⟩ := A1.out
  cases hd : datasB (p.ds.map dty) with
  | false =>
    have F := Lib.hid (progB_d hd)
    clear hd
    go_wp2_with fail
    go_ret
    exact ⟨ret_b F.out.symm, G1.out⟩
  | true =>
  have HD := Lib.hid hd
  clear hd
  go_wp2_with fail
  refine (spec_inI p.fs.length 1 8 _).mono ?_
  rintro e w2 ⟨rfl, g2⟩
  have A2 := Lib.hid (A1.out.grow g2)
  have G2 := Lib.hid (G1.out.trans g2)
  clear c0 c1 g2
  cases hi : inI p.fs.length 1 8 with
  | false =>
    have F := Lib.hid (progB_l hi)
    clear hi
    go_wp2_with fail
    go_ret
    exact ⟨ret_b F.out.symm, G2.out⟩
  | true =>
  have HI := Lib.hid hi
  clear hi
  go_wp2_with fail
  go_loopw [3] (fun i wr => ∃ j : Nat, j ≤ p.fs.length ∧ i = .int .i64 j ∧ Gw w2 wr ∧ ∀ x, x < j → dfOkB (p.fs.map LF.df) x = true) (fun i _ => p.fs.length - (intOf i).toNat)
  case atStart => exact ⟨0, by omega, rfl, Gw.refl _, fun x h => absurd h (by omega)⟩
  case round =>
    obtain ⟨j, hj, rfl, hg, hall⟩ := hrel
    have HALL := Lib.hid hall
    have HG := Lib.hid hg
    have A3 := Lib.hid (A2.out.grow hg)
    clear hall hg
    obtain ⟨_, cP, _⟩ := A3.out
    by_cases hlt : j < p.fs.length
    · obtain ⟨bf, of', ea, hr⟩ := A3.out.2.2.2.2.2.resolve_left (fun e => by rw [e] at hlt; simp at hlt)
      obtain ⟨c0, c1, c2, c3, _, _, _, _, _, _, _, _, dk⟩ := dfRow_get hr j hlt
      have hsl := A3.out.2.2.2
      rw [ea] at cP hsl
      have HF := Lib.hid hsl
      have DK := Lib.hid dk
      have TA := Lib.hid (dfRow_tm hr j hlt)
      have HDB := Lib.hid (dfOkB_eq hlt)
      have hk2 : p.fs[j].n.size ≤ 9223372036854775807 := dk.1
      have lB : b < wr.heap.size := cell_lt cP
      have lF : bf < wr.heap.size := cell_lt c0
      have r0 : (0 : Int) ≤ j := by omega
      have r1 : (j : Int) < p.fs.length := by omega
      clear hr dk hsl ea
      go_upto_region 7 with (fail)
      cases hL : lowerB p.fs[j].n with
      | false =>
        have HL := Lib.hid hL
        clear hL
        refine wp_region_held_drew (S := fun W => W.cell? ⟨b, o + 1, none⟩ = some (.slice (some ⟨bf, of', none⟩) p.fs.length p.fc) ∧ W.cell? ⟨bf, of' + j * 12, none⟩ = some (.string p.fs[j].n) ∧ W.cell? ⟨bf, of' + j * 12 + 1, none⟩ = some (.int .i64 p.fs[j].t.k) ∧ W.cell? ⟨bf, of' + j * 12 + 2, none⟩ = some (.string p.fs[j].t.n) ∧ W.cell? ⟨bf, of' + j * 12 + 3, none⟩ = some (.slice p.fs[j].t.a p.fs[j].t.ks.length p.fs[j].t.cap)) (by kernel_rfl) ?_ (fun hHeld => ?_)
        · exact ⟨cP, c0, c1, c2, c3⟩
        refine wpAnyH_take (i := 0) (oi := { dst := some 35, op := _, type := _, pos := _, after := _, guard := _ }) (v := .pointer (some ⟨bf, of' + j * 12, none⟩)) rfl (by kernel_rfl) (by kernel_rfl) (by kernel_rfl) (fun _ _ _ h => h) (Or.inl ⟨by rfl, ?_⟩) (by assumption) ?_
        · intro w hSw; (try dsimp only at hSw); go_simp
        try simp only [Act.put, List.setIfInBounds_toArray, List.set_cons_zero, List.set_cons_succ]
        refine wpAnyH_take (i := 1) (oi := { dst := some 36, op := _, type := _, pos := _, after := _, guard := _ }) (v := .pointer (some ⟨bf, of' + j * 12, none⟩)) rfl (by kernel_rfl) (by kernel_rfl) (by kernel_rfl) (fun _ _ _ h => h) (Or.inl ⟨by rfl, ?_⟩) (by assumption) ?_
        · intro w hSw; (try dsimp only at hSw); go_simp
        try simp only [Act.put, List.setIfInBounds_toArray, List.set_cons_zero, List.set_cons_succ]
        refine wpAnyH_take (i := 2) (oi := { dst := some 37, op := _, type := _, pos := _, after := _, guard := _ }) (v := .pointer (some ⟨bf, of' + j * 12, none⟩)) rfl (by kernel_rfl) (by kernel_rfl) (by kernel_rfl) (fun _ _ _ h => h) (Or.inl ⟨by rfl, ?_⟩) (by assumption) ?_
        · intro w hSw; (try dsimp only at hSw); go_simp
        try simp only [Act.put, List.setIfInBounds_toArray, List.set_cons_zero, List.set_cons_succ]
        refine wpAnyH_take (i := 3) (oi := { dst := some 38, op := _, type := _, pos := _, after := _, guard := _ }) (v := .string p.fs[j].n) rfl (by kernel_rfl) (by kernel_rfl) (by kernel_rfl) (fun _ _ _ h => h) (Or.inl ⟨by rfl, ?_⟩) (by assumption) ?_
        · intro w hSw; (try dsimp only at hSw); go_simp
        try simp only [Act.put, List.setIfInBounds_toArray, List.set_cons_zero, List.set_cons_succ]
        refine wpAnyH_ready (rs := [4]) (by kernel_rfl) (by simp) ?_
        refine AllReadyH.cons (o := { dst := some 39, op := _, type := _, pos := _, after := _, guard := _ }) rfl (fun K hK => ?_) AllReadyH.nil
        go_simp
        go_at_call 59
        refine (spec_lower p.fs[j].n hk2 _).mono ?_
        rw [HL.out]
        rintro e w2 ⟨rfl, g2⟩
        have k2 : ∀ b o, b < wr.heap.size → w2.cell? ⟨b, o, none⟩ = wr.cell? ⟨b, o, none⟩ := fun b o h => (bcell g2).1 b o h
        go_wp2_with fail
        refine hK.out _ _ ⟨(k2 _ _ lB).trans cP, (k2 _ _ lF).trans c0, (k2 _ _ lF).trans c1, (k2 _ _ lF).trans c2, (k2 _ _ lF).trans c3⟩ (fun hHeld => ?_)
        clear hK K
        try simp only [Act.put, List.setIfInBounds_toArray, List.set_cons_zero, List.set_cons_succ]
        refine wpAnyH_take (i := 5) (oi := { dst := some 40, op := _, type := _, pos := _, after := _, guard := _ }) (v := .bool true) rfl (by kernel_rfl) (by kernel_rfl) (by kernel_rfl) (fun _ _ _ h => h) (Or.inl ⟨by rfl, ?_⟩) (by assumption) ?_
        · intro w hSw; (try dsimp only at hSw); go_simp
        try simp only [Act.put, List.setIfInBounds_toArray, List.set_cons_zero, List.set_cons_succ]
        refine wpAnyH_take (i := 6) (oi := { dst := some 41, op := _, type := _, pos := _, after := _, guard := _ }) (v := .bool true) rfl (by kernel_rfl) (by kernel_rfl) (by kernel_rfl) (fun _ _ _ h => h) (Or.inl ⟨by rfl, ?_⟩) (by assumption) ?_
        · intro w hSw; (try dsimp only at hSw); go_simp
        try simp only [Act.put, List.setIfInBounds_toArray, List.set_cons_zero, List.set_cons_succ]
        refine wpAnyH_take (i := 7) (oi := { dst := some 42, op := _, type := _, pos := _, after := _, guard := _ }) (v := undef) rfl (by kernel_rfl) (by kernel_rfl) (by kernel_rfl) (fun _ _ _ h => h) (Or.inr ⟨by rfl, rfl⟩) (by assumption) ?_
        try simp only [Act.put, List.setIfInBounds_toArray, List.set_cons_zero, List.set_cons_succ]
        refine wpAnyH_take (i := 8) (oi := { dst := some 43, op := _, type := _, pos := _, after := _, guard := _ }) (v := undef) rfl (by kernel_rfl) (by kernel_rfl) (by kernel_rfl) (fun _ _ _ h => h) (Or.inr ⟨by rfl, rfl⟩) (by assumption) ?_
        try simp only [Act.put, List.setIfInBounds_toArray, List.set_cons_zero, List.set_cons_succ]
        refine wpAnyH_take (i := 9) (oi := { dst := some 44, op := _, type := _, pos := _, after := _, guard := _ }) (v := undef) rfl (by kernel_rfl) (by kernel_rfl) (by kernel_rfl) (fun _ _ _ h => h) (Or.inr ⟨by rfl, rfl⟩) (by assumption) ?_
        try simp only [Act.put, List.setIfInBounds_toArray, List.set_cons_zero, List.set_cons_succ]
        refine wpAnyH_take (i := 10) (oi := { dst := some 45, op := _, type := _, pos := _, after := _, guard := _ }) (v := undef) rfl (by kernel_rfl) (by kernel_rfl) (by kernel_rfl) (fun _ _ _ h => h) (Or.inr ⟨by rfl, rfl⟩) (by assumption) ?_
        try simp only [Act.put, List.setIfInBounds_toArray, List.set_cons_zero, List.set_cons_succ]
        refine wpAnyH_take (i := 11) (oi := { dst := some 46, op := _, type := _, pos := _, after := _, guard := _ }) (v := undef) rfl (by kernel_rfl) (by kernel_rfl) (by kernel_rfl) (fun _ _ _ h => h) (Or.inr ⟨by rfl, rfl⟩) (by assumption) ?_
        try simp only [Act.put, List.setIfInBounds_toArray, List.set_cons_zero, List.set_cons_succ]
        refine wpAnyH_take (i := 12) (oi := { dst := some 47, op := _, type := _, pos := _, after := _, guard := _ }) (v := undef) rfl (by kernel_rfl) (by kernel_rfl) (by kernel_rfl) (fun _ _ _ h => h) (Or.inr ⟨by rfl, rfl⟩) (by assumption) ?_
        try simp only [Act.put, List.setIfInBounds_toArray, List.set_cons_zero, List.set_cons_succ]
        refine wpAnyH_take (i := 13) (oi := { dst := some 48, op := _, type := _, pos := _, after := _, guard := _ }) (v := undef) rfl (by kernel_rfl) (by kernel_rfl) (by kernel_rfl) (fun _ _ _ h => h) (Or.inr ⟨by rfl, rfl⟩) (by assumption) ?_
        try simp only [Act.put, List.setIfInBounds_toArray, List.set_cons_zero, List.set_cons_succ]
        refine wpAnyH_take (i := 14) (oi := { dst := some 49, op := _, type := _, pos := _, after := _, guard := _ }) (v := undef) rfl (by kernel_rfl) (by kernel_rfl) (by kernel_rfl) (fun _ _ _ h => h) (Or.inr ⟨by rfl, rfl⟩) (by assumption) ?_
        try simp only [Act.put, List.setIfInBounds_toArray, List.set_cons_zero, List.set_cons_succ]
        refine wpAnyH_take (i := 15) (oi := { dst := some 50, op := _, type := _, pos := _, after := _, guard := _ }) (v := undef) rfl (by kernel_rfl) (by kernel_rfl) (by kernel_rfl) (fun _ _ _ h => h) (Or.inr ⟨by rfl, rfl⟩) (by assumption) ?_
        try simp only [Act.put, List.setIfInBounds_toArray, List.set_cons_zero, List.set_cons_succ]
        refine wpAnyH_take (i := 16) (oi := { dst := some 51, op := _, type := _, pos := _, after := _, guard := _ }) (v := undef) rfl (by kernel_rfl) (by kernel_rfl) (by kernel_rfl) (fun _ _ _ h => h) (Or.inr ⟨by rfl, rfl⟩) (by assumption) ?_
        try simp only [Act.put, List.setIfInBounds_toArray, List.set_cons_zero, List.set_cons_succ]
        refine wpAnyH_take (i := 17) (oi := { dst := some 52, op := _, type := _, pos := _, after := _, guard := _ }) (v := undef) rfl (by kernel_rfl) (by kernel_rfl) (by kernel_rfl) (fun _ _ _ h => h) (Or.inr ⟨by rfl, rfl⟩) (by assumption) ?_
        try simp only [Act.put, List.setIfInBounds_toArray, List.set_cons_zero, List.set_cons_succ]
        refine wpAnyH_take (i := 18) (oi := { dst := some 53, op := _, type := _, pos := _, after := _, guard := _ }) (v := .bool true) rfl (by kernel_rfl) (by kernel_rfl) (by kernel_rfl) (fun _ _ _ h => h) (Or.inl ⟨by rfl, ?_⟩) (by assumption) ?_
        · intro w hSw; (try dsimp only at hSw); go_simp
        try simp only [Act.put, List.setIfInBounds_toArray, List.set_cons_zero, List.set_cons_succ]
        refine wpAnyH_take (i := 19) (oi := { dst := some 54, op := _, type := _, pos := _, after := _, guard := _ }) (v := .bool true) rfl (by kernel_rfl) (by kernel_rfl) (by kernel_rfl) (fun _ _ _ h => h) (Or.inl ⟨by rfl, ?_⟩) (by assumption) ?_
        · intro w hSw; (try dsimp only at hSw); go_simp
        try simp only [Act.put, List.setIfInBounds_toArray, List.set_cons_zero, List.set_cons_succ]
        refine wpAnyH_take (i := 20) (oi := { dst := some 55, op := _, type := _, pos := _, after := _, guard := _ }) (v := undef) rfl (by kernel_rfl) (by kernel_rfl) (by kernel_rfl) (fun _ _ _ h => h) (Or.inr ⟨by rfl, rfl⟩) (by assumption) ?_
        try simp only [Act.put, List.setIfInBounds_toArray, List.set_cons_zero, List.set_cons_succ]
        refine wpAnyH_take (i := 21) (oi := { dst := some 56, op := _, type := _, pos := _, after := _, guard := _ }) (v := undef) rfl (by kernel_rfl) (by kernel_rfl) (by kernel_rfl) (fun _ _ _ h => h) (Or.inr ⟨by rfl, rfl⟩) (by assumption) ?_
        try simp only [Act.put, List.setIfInBounds_toArray, List.set_cons_zero, List.set_cons_succ]
        refine wpAnyH_take (i := 22) (oi := { dst := some 57, op := _, type := _, pos := _, after := _, guard := _ }) (v := undef) rfl (by kernel_rfl) (by kernel_rfl) (by kernel_rfl) (fun _ _ _ h => h) (Or.inr ⟨by rfl, rfl⟩) (by assumption) ?_
        try simp only [Act.put, List.setIfInBounds_toArray, List.set_cons_zero, List.set_cons_succ]
        refine wpAnyH_take (i := 23) (oi := { dst := some 58, op := _, type := _, pos := _, after := _, guard := _ }) (v := undef) rfl (by kernel_rfl) (by kernel_rfl) (by kernel_rfl) (fun _ _ _ h => h) (Or.inr ⟨by rfl, rfl⟩) (by assumption) ?_
        try simp only [Act.put, List.setIfInBounds_toArray, List.set_cons_zero, List.set_cons_succ]
        refine wpAnyH_take (i := 24) (oi := { dst := some 59, op := _, type := _, pos := _, after := _, guard := _ }) (v := undef) rfl (by kernel_rfl) (by kernel_rfl) (by kernel_rfl) (fun _ _ _ h => h) (Or.inr ⟨by rfl, rfl⟩) (by assumption) ?_
        try simp only [Act.put, List.setIfInBounds_toArray, List.set_cons_zero, List.set_cons_succ]
        refine wpAnyH_take (i := 25) (oi := { dst := some 60, op := _, type := _, pos := _, after := _, guard := _ }) (v := undef) rfl (by kernel_rfl) (by kernel_rfl) (by kernel_rfl) (fun _ _ _ h => h) (Or.inr ⟨by rfl, rfl⟩) (by assumption) ?_
        try simp only [Act.put, List.setIfInBounds_toArray, List.set_cons_zero, List.set_cons_succ]
        refine wpAnyH_take (i := 26) (oi := { dst := some 61, op := _, type := _, pos := _, after := _, guard := _ }) (v := .bool true) rfl (by kernel_rfl) (by kernel_rfl) (by kernel_rfl) (fun _ _ _ h => h) (Or.inl ⟨by rfl, ?_⟩) (by assumption) ?_
        · intro w hSw; (try dsimp only at hSw); go_simp
        try simp only [Act.put, List.setIfInBounds_toArray, List.set_cons_zero, List.set_cons_succ]
        refine wpAnyH_take (i := 27) (oi := { dst := some 62, op := _, type := _, pos := _, after := _, guard := _ }) (v := .bool true) rfl (by kernel_rfl) (by kernel_rfl) (by kernel_rfl) (fun _ _ _ h => h) (Or.inl ⟨by rfl, ?_⟩) (by assumption) ?_
        · intro w hSw; (try dsimp only at hSw); go_simp
        try simp only [Act.put, List.setIfInBounds_toArray, List.set_cons_zero, List.set_cons_succ]
        refine wpAnyH_take (i := 28) (oi := { dst := some 63, op := _, type := _, pos := _, after := _, guard := _ }) (v := undef) rfl (by kernel_rfl) (by kernel_rfl) (by kernel_rfl) (fun _ _ _ h => h) (Or.inr ⟨by rfl, rfl⟩) (by assumption) ?_
        try simp only [Act.put, List.setIfInBounds_toArray, List.set_cons_zero, List.set_cons_succ]
        refine wpAnyH_take (i := 29) (oi := { dst := some 64, op := _, type := _, pos := _, after := _, guard := _ }) (v := undef) rfl (by kernel_rfl) (by kernel_rfl) (by kernel_rfl) (fun _ _ _ h => h) (Or.inr ⟨by rfl, rfl⟩) (by assumption) ?_
        try simp only [Act.put, List.setIfInBounds_toArray, List.set_cons_zero, List.set_cons_succ]
        refine wpAnyH_take (i := 30) (oi := { dst := some 65, op := _, type := _, pos := _, after := _, guard := _ }) (v := undef) rfl (by kernel_rfl) (by kernel_rfl) (by kernel_rfl) (fun _ _ _ h => h) (Or.inr ⟨by rfl, rfl⟩) (by assumption) ?_
        try simp only [Act.put, List.setIfInBounds_toArray, List.set_cons_zero, List.set_cons_succ]
        refine wpAnyH_take (i := 31) (oi := { dst := some 66, op := _, type := _, pos := _, after := _, guard := _ }) (v := undef) rfl (by kernel_rfl) (by kernel_rfl) (by kernel_rfl) (fun _ _ _ h => h) (Or.inr ⟨by rfl, rfl⟩) (by assumption) ?_
        try simp only [Act.put, List.setIfInBounds_toArray, List.set_cons_zero, List.set_cons_succ]
        refine wpAnyH_take (i := 32) (oi := { dst := some 67, op := _, type := _, pos := _, after := _, guard := _ }) (v := undef) rfl (by kernel_rfl) (by kernel_rfl) (by kernel_rfl) (fun _ _ _ h => h) (Or.inr ⟨by rfl, rfl⟩) (by assumption) ?_
        try simp only [Act.put, List.setIfInBounds_toArray, List.set_cons_zero, List.set_cons_succ]
        refine wpAnyH_take (i := 33) (oi := { dst := some 68, op := _, type := _, pos := _, after := _, guard := _ }) (v := .bool true) rfl (by kernel_rfl) (by kernel_rfl) (by kernel_rfl) (fun _ _ _ h => h) (Or.inl ⟨by rfl, ?_⟩) (by assumption) ?_
        · intro w hSw; (try dsimp only at hSw); go_simp
        try simp only [Act.put, List.setIfInBounds_toArray, List.set_cons_zero, List.set_cons_succ]
        refine wpAnyH_done (by kernel_rfl) ?_ _
        go_wp2_with fail
        go_ret
        exact ⟨ret_b (by rw [progB_bad (defsB_bad (i := j) (by simpa using hlt) (by rw [HDB.out]; simp [HL.out]))]), G2.out.trans (HG.out.trans ((Gw.refl wr).drew.trans g2))⟩
      | true =>
        have HL := Lib.hid hL
        clear hL
        cases hH : hasB ((p.fs.map LF.n).take j) p.fs[j].n with
        | true =>
          have HH := Lib.hid hH
          clear hH
          refine wp_region_held_drew (S := fun W => W.cell? ⟨b, o + 1, none⟩ = some (.slice (some ⟨bf, of', none⟩) p.fs.length p.fc) ∧ W.cell? ⟨bf, of' + j * 12, none⟩ = some (.string p.fs[j].n) ∧ W.cell? ⟨bf, of' + j * 12 + 1, none⟩ = some (.int .i64 p.fs[j].t.k) ∧ W.cell? ⟨bf, of' + j * 12 + 2, none⟩ = some (.string p.fs[j].t.n) ∧ W.cell? ⟨bf, of' + j * 12 + 3, none⟩ = some (.slice p.fs[j].t.a p.fs[j].t.ks.length p.fs[j].t.cap)) (by kernel_rfl) ?_ (fun hHeld => ?_)
          · exact ⟨cP, c0, c1, c2, c3⟩
          refine wpAnyH_take (i := 0) (oi := { dst := some 35, op := _, type := _, pos := _, after := _, guard := _ }) (v := .pointer (some ⟨bf, of' + j * 12, none⟩)) rfl (by kernel_rfl) (by kernel_rfl) (by kernel_rfl) (fun _ _ _ h => h) (Or.inl ⟨by rfl, ?_⟩) (by assumption) ?_
          · intro w hSw; (try dsimp only at hSw); go_simp
          try simp only [Act.put, List.setIfInBounds_toArray, List.set_cons_zero, List.set_cons_succ]
          refine wpAnyH_take (i := 1) (oi := { dst := some 36, op := _, type := _, pos := _, after := _, guard := _ }) (v := .pointer (some ⟨bf, of' + j * 12, none⟩)) rfl (by kernel_rfl) (by kernel_rfl) (by kernel_rfl) (fun _ _ _ h => h) (Or.inl ⟨by rfl, ?_⟩) (by assumption) ?_
          · intro w hSw; (try dsimp only at hSw); go_simp
          try simp only [Act.put, List.setIfInBounds_toArray, List.set_cons_zero, List.set_cons_succ]
          refine wpAnyH_take (i := 2) (oi := { dst := some 37, op := _, type := _, pos := _, after := _, guard := _ }) (v := .pointer (some ⟨bf, of' + j * 12, none⟩)) rfl (by kernel_rfl) (by kernel_rfl) (by kernel_rfl) (fun _ _ _ h => h) (Or.inl ⟨by rfl, ?_⟩) (by assumption) ?_
          · intro w hSw; (try dsimp only at hSw); go_simp
          try simp only [Act.put, List.setIfInBounds_toArray, List.set_cons_zero, List.set_cons_succ]
          refine wpAnyH_take (i := 3) (oi := { dst := some 38, op := _, type := _, pos := _, after := _, guard := _ }) (v := .string p.fs[j].n) rfl (by kernel_rfl) (by kernel_rfl) (by kernel_rfl) (fun _ _ _ h => h) (Or.inl ⟨by rfl, ?_⟩) (by assumption) ?_
          · intro w hSw; (try dsimp only at hSw); go_simp
          try simp only [Act.put, List.setIfInBounds_toArray, List.set_cons_zero, List.set_cons_succ]
          refine wpAnyH_ready (rs := [4]) (by kernel_rfl) (by simp) ?_
          refine AllReadyH.cons (o := { dst := some 39, op := _, type := _, pos := _, after := _, guard := _ }) rfl (fun K hK => ?_) AllReadyH.nil
          go_simp
          go_at_call 59
          refine (spec_lower p.fs[j].n hk2 _).mono ?_
          rw [HL.out]
          rintro e w2 ⟨rfl, g2⟩
          have k2 : ∀ b o, b < wr.heap.size → w2.cell? ⟨b, o, none⟩ = wr.cell? ⟨b, o, none⟩ := fun b o h => (bcell g2).1 b o h
          go_wp2_with fail
          refine hK.out _ _ ⟨(k2 _ _ lB).trans cP, (k2 _ _ lF).trans c0, (k2 _ _ lF).trans c1, (k2 _ _ lF).trans c2, (k2 _ _ lF).trans c3⟩ (fun hHeld => ?_)
          clear hK K
          try simp only [Act.put, List.setIfInBounds_toArray, List.set_cons_zero, List.set_cons_succ]
          refine wpAnyH_take (i := 5) (oi := { dst := some 40, op := _, type := _, pos := _, after := _, guard := _ }) (v := .bool false) rfl (by kernel_rfl) (by kernel_rfl) (by kernel_rfl) (fun _ _ _ h => h) (Or.inl ⟨by rfl, ?_⟩) (by assumption) ?_
          · intro w hSw; (try dsimp only at hSw); go_simp
          try simp only [Act.put, List.setIfInBounds_toArray, List.set_cons_zero, List.set_cons_succ]
          refine wpAnyH_take (i := 6) (oi := { dst := some 41, op := _, type := _, pos := _, after := _, guard := _ }) (v := .bool false) rfl (by kernel_rfl) (by kernel_rfl) (by kernel_rfl) (fun _ _ _ h => h) (Or.inl ⟨by rfl, ?_⟩) (by assumption) ?_
          · intro w hSw; (try dsimp only at hSw); go_simp
          try simp only [Act.put, List.setIfInBounds_toArray, List.set_cons_zero, List.set_cons_succ]
          refine wpAnyH_take (i := 7) (oi := { dst := some 42, op := _, type := _, pos := _, after := _, guard := _ }) (v := .pointer (some ⟨b, o, none⟩)) rfl (by kernel_rfl) (by kernel_rfl) (by kernel_rfl) (fun _ _ _ h => h) (Or.inl ⟨by rfl, ?_⟩) (by assumption) ?_
          · intro w hSw; (try dsimp only at hSw); go_simp
          try simp only [Act.put, List.setIfInBounds_toArray, List.set_cons_zero, List.set_cons_succ]
          refine wpAnyH_take (i := 8) (oi := { dst := some 43, op := _, type := _, pos := _, after := _, guard := _ }) (v := .pointer (some ⟨b, o, none⟩)) rfl (by kernel_rfl) (by kernel_rfl) (by kernel_rfl) (fun _ _ _ h => h) (Or.inl ⟨by rfl, ?_⟩) (by assumption) ?_
          · intro w hSw; (try dsimp only at hSw); go_simp
          try simp only [Act.put, List.setIfInBounds_toArray, List.set_cons_zero, List.set_cons_succ]
          refine wpAnyH_take (i := 9) (oi := { dst := some 44, op := _, type := _, pos := _, after := _, guard := _ }) (v := .pointer (some ⟨b, o + 1, none⟩)) rfl (by kernel_rfl) (by kernel_rfl) (by kernel_rfl) (fun _ _ _ h => h) (Or.inl ⟨by rfl, ?_⟩) (by assumption) ?_
          · intro w hSw; (try dsimp only at hSw); go_simp
          try simp only [Act.put, List.setIfInBounds_toArray, List.set_cons_zero, List.set_cons_succ]
          refine wpAnyH_take (i := 10) (oi := { dst := some 45, op := _, type := _, pos := _, after := _, guard := _ }) (v := .slice (some ⟨bf, of', none⟩) p.fs.length p.fc) rfl (by kernel_rfl) (by kernel_rfl) (by kernel_rfl) (fun _ _ _ h => h) (Or.inl ⟨by rfl, ?_⟩) (by assumption) ?_
          · intro w hSw; (try dsimp only at hSw); go_simp
          try simp only [Act.put, List.setIfInBounds_toArray, List.set_cons_zero, List.set_cons_succ]
          refine wpAnyH_take (i := 11) (oi := { dst := some 46, op := _, type := _, pos := _, after := _, guard := _ }) (v := .pointer (some ⟨bf, of' + j * 12, none⟩)) rfl (by kernel_rfl) (by kernel_rfl) (by kernel_rfl) (fun _ _ _ h => h) (Or.inl ⟨by rfl, ?_⟩) (by assumption) ?_
          · intro w hSw; (try dsimp only at hSw); go_simp
          try simp only [Act.put, List.setIfInBounds_toArray, List.set_cons_zero, List.set_cons_succ]
          refine wpAnyH_take (i := 12) (oi := { dst := some 47, op := _, type := _, pos := _, after := _, guard := _ }) (v := .pointer (some ⟨bf, of' + j * 12, none⟩)) rfl (by kernel_rfl) (by kernel_rfl) (by kernel_rfl) (fun _ _ _ h => h) (Or.inl ⟨by rfl, ?_⟩) (by assumption) ?_
          · intro w hSw; (try dsimp only at hSw); go_simp
          try simp only [Act.put, List.setIfInBounds_toArray, List.set_cons_zero, List.set_cons_succ]
          refine wpAnyH_take (i := 13) (oi := { dst := some 48, op := _, type := _, pos := _, after := _, guard := _ }) (v := .pointer (some ⟨bf, of' + j * 12, none⟩)) rfl (by kernel_rfl) (by kernel_rfl) (by kernel_rfl) (fun _ _ _ h => h) (Or.inl ⟨by rfl, ?_⟩) (by assumption) ?_
          · intro w hSw; (try dsimp only at hSw); go_simp
          try simp only [Act.put, List.setIfInBounds_toArray, List.set_cons_zero, List.set_cons_succ]
          refine wpAnyH_take (i := 14) (oi := { dst := some 49, op := _, type := _, pos := _, after := _, guard := _ }) (v := .string p.fs[j].n) rfl (by kernel_rfl) (by kernel_rfl) (by kernel_rfl) (fun _ _ _ h => h) (Or.inl ⟨by rfl, ?_⟩) (by assumption) ?_
          · intro w hSw; (try dsimp only at hSw); go_simp
          try simp only [Act.put, List.setIfInBounds_toArray, List.set_cons_zero, List.set_cons_succ]
          refine wpAnyH_take (i := 16) (oi := { dst := some 51, op := _, type := _, pos := _, after := _, guard := _ }) (v := .int .i64 j) rfl (by kernel_rfl) (by kernel_rfl) (by kernel_rfl) (fun _ _ _ h => h) (Or.inl ⟨by rfl, ?_⟩) (by assumption) ?_
          · intro w hSw; (try dsimp only at hSw); go_simp
          try simp only [Act.put, List.setIfInBounds_toArray, List.set_cons_zero, List.set_cons_succ]
          refine wpAnyH_ready (rs := [15]) (by kernel_rfl) (by simp) ?_
          refine AllReadyH.cons (o := { dst := some 50, op := _, type := _, pos := _, after := _, guard := _ }) rfl (fun K hK => ?_) AllReadyH.nil
          go_simp
          go_at_call 28
          refine (spec_namedF p.fs _ (some ⟨bf, of', none⟩) p.fc p.fs[j].n (gSl.grow dfLen dfGr HF.out ((Gw.refl wr).drew.trans g2))).mono ?_
          rintro e w3 ⟨r, rfl, hr, g3⟩
          have k3 : ∀ b o, b < wr.heap.size → w3.cell? ⟨b, o, none⟩ = wr.cell? ⟨b, o, none⟩ := fun b o h => ((bcell g3).1 b o (Nat.lt_of_lt_of_le h g2.size)).trans (k2 b o h)
          have HIX := Lib.hid (ix_own hlt hr)
          clear hr
          go_wp2_with fail
          refine hK.out _ _ ⟨(k3 _ _ lB).trans cP, (k3 _ _ lF).trans c0, (k3 _ _ lF).trans c1, (k3 _ _ lF).trans c2, (k3 _ _ lF).trans c3⟩ (fun hHeld => ?_)
          clear hK K
          try simp only [Act.put, List.setIfInBounds_toArray, List.set_cons_zero, List.set_cons_succ]
          have hne : (r != (j : Int)) = true := by have := HIX.out.2.2 HH.out; simp; omega
          refine wpAnyH_take (i := 17) (oi := { dst := some 52, op := _, type := _, pos := _, after := _, guard := _ }) (v := .bool true) rfl (by kernel_rfl) (by kernel_rfl) (by kernel_rfl) (fun _ _ _ h => h) (Or.inl ⟨by rfl, ?_⟩) (by assumption) ?_
          · intro w hSw; (try dsimp only at hSw); go_simp
          try simp only [Act.put, List.setIfInBounds_toArray, List.set_cons_zero, List.set_cons_succ]
          refine wpAnyH_take (i := 18) (oi := { dst := some 53, op := _, type := _, pos := _, after := _, guard := _ }) (v := .bool true) rfl (by kernel_rfl) (by kernel_rfl) (by kernel_rfl) (fun _ _ _ h => h) (Or.inl ⟨by rfl, ?_⟩) (by assumption) ?_
          · intro w hSw; (try dsimp only at hSw); go_simp
          try simp only [Act.put, List.setIfInBounds_toArray, List.set_cons_zero, List.set_cons_succ]
          refine wpAnyH_take (i := 19) (oi := { dst := some 54, op := _, type := _, pos := _, after := _, guard := _ }) (v := .bool true) rfl (by kernel_rfl) (by kernel_rfl) (by kernel_rfl) (fun _ _ _ h => h) (Or.inl ⟨by rfl, ?_⟩) (by assumption) ?_
          · intro w hSw; (try dsimp only at hSw); go_simp
          try simp only [Act.put, List.setIfInBounds_toArray, List.set_cons_zero, List.set_cons_succ]
          refine wpAnyH_take (i := 20) (oi := { dst := some 55, op := _, type := _, pos := _, after := _, guard := _ }) (v := undef) rfl (by kernel_rfl) (by kernel_rfl) (by kernel_rfl) (fun _ _ _ h => h) (Or.inr ⟨by rfl, rfl⟩) (by assumption) ?_
          try simp only [Act.put, List.setIfInBounds_toArray, List.set_cons_zero, List.set_cons_succ]
          refine wpAnyH_take (i := 21) (oi := { dst := some 56, op := _, type := _, pos := _, after := _, guard := _ }) (v := undef) rfl (by kernel_rfl) (by kernel_rfl) (by kernel_rfl) (fun _ _ _ h => h) (Or.inr ⟨by rfl, rfl⟩) (by assumption) ?_
          try simp only [Act.put, List.setIfInBounds_toArray, List.set_cons_zero, List.set_cons_succ]
          refine wpAnyH_take (i := 22) (oi := { dst := some 57, op := _, type := _, pos := _, after := _, guard := _ }) (v := undef) rfl (by kernel_rfl) (by kernel_rfl) (by kernel_rfl) (fun _ _ _ h => h) (Or.inr ⟨by rfl, rfl⟩) (by assumption) ?_
          try simp only [Act.put, List.setIfInBounds_toArray, List.set_cons_zero, List.set_cons_succ]
          refine wpAnyH_take (i := 23) (oi := { dst := some 58, op := _, type := _, pos := _, after := _, guard := _ }) (v := undef) rfl (by kernel_rfl) (by kernel_rfl) (by kernel_rfl) (fun _ _ _ h => h) (Or.inr ⟨by rfl, rfl⟩) (by assumption) ?_
          try simp only [Act.put, List.setIfInBounds_toArray, List.set_cons_zero, List.set_cons_succ]
          refine wpAnyH_take (i := 24) (oi := { dst := some 59, op := _, type := _, pos := _, after := _, guard := _ }) (v := undef) rfl (by kernel_rfl) (by kernel_rfl) (by kernel_rfl) (fun _ _ _ h => h) (Or.inr ⟨by rfl, rfl⟩) (by assumption) ?_
          try simp only [Act.put, List.setIfInBounds_toArray, List.set_cons_zero, List.set_cons_succ]
          refine wpAnyH_take (i := 25) (oi := { dst := some 60, op := _, type := _, pos := _, after := _, guard := _ }) (v := undef) rfl (by kernel_rfl) (by kernel_rfl) (by kernel_rfl) (fun _ _ _ h => h) (Or.inr ⟨by rfl, rfl⟩) (by assumption) ?_
          try simp only [Act.put, List.setIfInBounds_toArray, List.set_cons_zero, List.set_cons_succ]
          refine wpAnyH_take (i := 26) (oi := { dst := some 61, op := _, type := _, pos := _, after := _, guard := _ }) (v := .bool true) rfl (by kernel_rfl) (by kernel_rfl) (by kernel_rfl) (fun _ _ _ h => h) (Or.inl ⟨by rfl, ?_⟩) (by assumption) ?_
          · intro w hSw; (try dsimp only at hSw); go_simp
          try simp only [Act.put, List.setIfInBounds_toArray, List.set_cons_zero, List.set_cons_succ]
          refine wpAnyH_take (i := 27) (oi := { dst := some 62, op := _, type := _, pos := _, after := _, guard := _ }) (v := .bool true) rfl (by kernel_rfl) (by kernel_rfl) (by kernel_rfl) (fun _ _ _ h => h) (Or.inl ⟨by rfl, ?_⟩) (by assumption) ?_
          · intro w hSw; (try dsimp only at hSw); go_simp
          try simp only [Act.put, List.setIfInBounds_toArray, List.set_cons_zero, List.set_cons_succ]
          refine wpAnyH_take (i := 28) (oi := { dst := some 63, op := _, type := _, pos := _, after := _, guard := _ }) (v := undef) rfl (by kernel_rfl) (by kernel_rfl) (by kernel_rfl) (fun _ _ _ h => h) (Or.inr ⟨by rfl, rfl⟩) (by assumption) ?_
          try simp only [Act.put, List.setIfInBounds_toArray, List.set_cons_zero, List.set_cons_succ]
          refine wpAnyH_take (i := 29) (oi := { dst := some 64, op := _, type := _, pos := _, after := _, guard := _ }) (v := undef) rfl (by kernel_rfl) (by kernel_rfl) (by kernel_rfl) (fun _ _ _ h => h) (Or.inr ⟨by rfl, rfl⟩) (by assumption) ?_
          try simp only [Act.put, List.setIfInBounds_toArray, List.set_cons_zero, List.set_cons_succ]
          refine wpAnyH_take (i := 30) (oi := { dst := some 65, op := _, type := _, pos := _, after := _, guard := _ }) (v := undef) rfl (by kernel_rfl) (by kernel_rfl) (by kernel_rfl) (fun _ _ _ h => h) (Or.inr ⟨by rfl, rfl⟩) (by assumption) ?_
          try simp only [Act.put, List.setIfInBounds_toArray, List.set_cons_zero, List.set_cons_succ]
          refine wpAnyH_take (i := 31) (oi := { dst := some 66, op := _, type := _, pos := _, after := _, guard := _ }) (v := undef) rfl (by kernel_rfl) (by kernel_rfl) (by kernel_rfl) (fun _ _ _ h => h) (Or.inr ⟨by rfl, rfl⟩) (by assumption) ?_
          try simp only [Act.put, List.setIfInBounds_toArray, List.set_cons_zero, List.set_cons_succ]
          refine wpAnyH_take (i := 32) (oi := { dst := some 67, op := _, type := _, pos := _, after := _, guard := _ }) (v := undef) rfl (by kernel_rfl) (by kernel_rfl) (by kernel_rfl) (fun _ _ _ h => h) (Or.inr ⟨by rfl, rfl⟩) (by assumption) ?_
          try simp only [Act.put, List.setIfInBounds_toArray, List.set_cons_zero, List.set_cons_succ]
          refine wpAnyH_take (i := 33) (oi := { dst := some 68, op := _, type := _, pos := _, after := _, guard := _ }) (v := .bool true) rfl (by kernel_rfl) (by kernel_rfl) (by kernel_rfl) (fun _ _ _ h => h) (Or.inl ⟨by rfl, ?_⟩) (by assumption) ?_
          · intro w hSw; (try dsimp only at hSw); go_simp
          try simp only [Act.put, List.setIfInBounds_toArray, List.set_cons_zero, List.set_cons_succ]
          refine wpAnyH_done (by kernel_rfl) ?_ _
          go_wp2_with fail
          go_ret
          exact ⟨ret_b (by rw [progB_bad (defsB_bad (i := j) (by simpa using hlt) (by rw [HDB.out]; simp [HL.out, HH.out]))]), G2.out.trans (HG.out.trans (((Gw.refl wr).drew.trans g2).trans g3))⟩
        | false =>
          have HH := Lib.hid hH
          clear hH
          cases hV : validB p.fs[j].t.ty with
          | false =>
            have HV := Lib.hid hV
            clear hV
            refine wp_region_held_drew (S := fun W => W.cell? ⟨b, o + 1, none⟩ = some (.slice (some ⟨bf, of', none⟩) p.fs.length p.fc) ∧ W.cell? ⟨bf, of' + j * 12, none⟩ = some (.string p.fs[j].n) ∧ W.cell? ⟨bf, of' + j * 12 + 1, none⟩ = some (.int .i64 p.fs[j].t.k) ∧ W.cell? ⟨bf, of' + j * 12 + 2, none⟩ = some (.string p.fs[j].t.n) ∧ W.cell? ⟨bf, of' + j * 12 + 3, none⟩ = some (.slice p.fs[j].t.a p.fs[j].t.ks.length p.fs[j].t.cap)) (by kernel_rfl) ?_ (fun hHeld => ?_)
            · exact ⟨cP, c0, c1, c2, c3⟩
            refine wpAnyH_take (i := 0) (oi := { dst := some 35, op := _, type := _, pos := _, after := _, guard := _ }) (v := .pointer (some ⟨bf, of' + j * 12, none⟩)) rfl (by kernel_rfl) (by kernel_rfl) (by kernel_rfl) (fun _ _ _ h => h) (Or.inl ⟨by rfl, ?_⟩) (by assumption) ?_
            · intro w hSw; (try dsimp only at hSw); go_simp
            try simp only [Act.put, List.setIfInBounds_toArray, List.set_cons_zero, List.set_cons_succ]
            refine wpAnyH_take (i := 1) (oi := { dst := some 36, op := _, type := _, pos := _, after := _, guard := _ }) (v := .pointer (some ⟨bf, of' + j * 12, none⟩)) rfl (by kernel_rfl) (by kernel_rfl) (by kernel_rfl) (fun _ _ _ h => h) (Or.inl ⟨by rfl, ?_⟩) (by assumption) ?_
            · intro w hSw; (try dsimp only at hSw); go_simp
            try simp only [Act.put, List.setIfInBounds_toArray, List.set_cons_zero, List.set_cons_succ]
            refine wpAnyH_take (i := 2) (oi := { dst := some 37, op := _, type := _, pos := _, after := _, guard := _ }) (v := .pointer (some ⟨bf, of' + j * 12, none⟩)) rfl (by kernel_rfl) (by kernel_rfl) (by kernel_rfl) (fun _ _ _ h => h) (Or.inl ⟨by rfl, ?_⟩) (by assumption) ?_
            · intro w hSw; (try dsimp only at hSw); go_simp
            try simp only [Act.put, List.setIfInBounds_toArray, List.set_cons_zero, List.set_cons_succ]
            refine wpAnyH_take (i := 3) (oi := { dst := some 38, op := _, type := _, pos := _, after := _, guard := _ }) (v := .string p.fs[j].n) rfl (by kernel_rfl) (by kernel_rfl) (by kernel_rfl) (fun _ _ _ h => h) (Or.inl ⟨by rfl, ?_⟩) (by assumption) ?_
            · intro w hSw; (try dsimp only at hSw); go_simp
            try simp only [Act.put, List.setIfInBounds_toArray, List.set_cons_zero, List.set_cons_succ]
            refine wpAnyH_ready (rs := [4]) (by kernel_rfl) (by simp) ?_
            refine AllReadyH.cons (o := { dst := some 39, op := _, type := _, pos := _, after := _, guard := _ }) rfl (fun K hK => ?_) AllReadyH.nil
            go_simp
            go_at_call 59
            refine (spec_lower p.fs[j].n hk2 _).mono ?_
            rw [HL.out]
            rintro e w2 ⟨rfl, g2⟩
            have k2 : ∀ b o, b < wr.heap.size → w2.cell? ⟨b, o, none⟩ = wr.cell? ⟨b, o, none⟩ := fun b o h => (bcell g2).1 b o h
            go_wp2_with fail
            refine hK.out _ _ ⟨(k2 _ _ lB).trans cP, (k2 _ _ lF).trans c0, (k2 _ _ lF).trans c1, (k2 _ _ lF).trans c2, (k2 _ _ lF).trans c3⟩ (fun hHeld => ?_)
            clear hK K
            try simp only [Act.put, List.setIfInBounds_toArray, List.set_cons_zero, List.set_cons_succ]
            refine wpAnyH_take (i := 5) (oi := { dst := some 40, op := _, type := _, pos := _, after := _, guard := _ }) (v := .bool false) rfl (by kernel_rfl) (by kernel_rfl) (by kernel_rfl) (fun _ _ _ h => h) (Or.inl ⟨by rfl, ?_⟩) (by assumption) ?_
            · intro w hSw; (try dsimp only at hSw); go_simp
            try simp only [Act.put, List.setIfInBounds_toArray, List.set_cons_zero, List.set_cons_succ]
            refine wpAnyH_take (i := 6) (oi := { dst := some 41, op := _, type := _, pos := _, after := _, guard := _ }) (v := .bool false) rfl (by kernel_rfl) (by kernel_rfl) (by kernel_rfl) (fun _ _ _ h => h) (Or.inl ⟨by rfl, ?_⟩) (by assumption) ?_
            · intro w hSw; (try dsimp only at hSw); go_simp
            try simp only [Act.put, List.setIfInBounds_toArray, List.set_cons_zero, List.set_cons_succ]
            refine wpAnyH_take (i := 7) (oi := { dst := some 42, op := _, type := _, pos := _, after := _, guard := _ }) (v := .pointer (some ⟨b, o, none⟩)) rfl (by kernel_rfl) (by kernel_rfl) (by kernel_rfl) (fun _ _ _ h => h) (Or.inl ⟨by rfl, ?_⟩) (by assumption) ?_
            · intro w hSw; (try dsimp only at hSw); go_simp
            try simp only [Act.put, List.setIfInBounds_toArray, List.set_cons_zero, List.set_cons_succ]
            refine wpAnyH_take (i := 8) (oi := { dst := some 43, op := _, type := _, pos := _, after := _, guard := _ }) (v := .pointer (some ⟨b, o, none⟩)) rfl (by kernel_rfl) (by kernel_rfl) (by kernel_rfl) (fun _ _ _ h => h) (Or.inl ⟨by rfl, ?_⟩) (by assumption) ?_
            · intro w hSw; (try dsimp only at hSw); go_simp
            try simp only [Act.put, List.setIfInBounds_toArray, List.set_cons_zero, List.set_cons_succ]
            refine wpAnyH_take (i := 9) (oi := { dst := some 44, op := _, type := _, pos := _, after := _, guard := _ }) (v := .pointer (some ⟨b, o + 1, none⟩)) rfl (by kernel_rfl) (by kernel_rfl) (by kernel_rfl) (fun _ _ _ h => h) (Or.inl ⟨by rfl, ?_⟩) (by assumption) ?_
            · intro w hSw; (try dsimp only at hSw); go_simp
            try simp only [Act.put, List.setIfInBounds_toArray, List.set_cons_zero, List.set_cons_succ]
            refine wpAnyH_take (i := 10) (oi := { dst := some 45, op := _, type := _, pos := _, after := _, guard := _ }) (v := .slice (some ⟨bf, of', none⟩) p.fs.length p.fc) rfl (by kernel_rfl) (by kernel_rfl) (by kernel_rfl) (fun _ _ _ h => h) (Or.inl ⟨by rfl, ?_⟩) (by assumption) ?_
            · intro w hSw; (try dsimp only at hSw); go_simp
            try simp only [Act.put, List.setIfInBounds_toArray, List.set_cons_zero, List.set_cons_succ]
            refine wpAnyH_take (i := 11) (oi := { dst := some 46, op := _, type := _, pos := _, after := _, guard := _ }) (v := .pointer (some ⟨bf, of' + j * 12, none⟩)) rfl (by kernel_rfl) (by kernel_rfl) (by kernel_rfl) (fun _ _ _ h => h) (Or.inl ⟨by rfl, ?_⟩) (by assumption) ?_
            · intro w hSw; (try dsimp only at hSw); go_simp
            try simp only [Act.put, List.setIfInBounds_toArray, List.set_cons_zero, List.set_cons_succ]
            refine wpAnyH_take (i := 12) (oi := { dst := some 47, op := _, type := _, pos := _, after := _, guard := _ }) (v := .pointer (some ⟨bf, of' + j * 12, none⟩)) rfl (by kernel_rfl) (by kernel_rfl) (by kernel_rfl) (fun _ _ _ h => h) (Or.inl ⟨by rfl, ?_⟩) (by assumption) ?_
            · intro w hSw; (try dsimp only at hSw); go_simp
            try simp only [Act.put, List.setIfInBounds_toArray, List.set_cons_zero, List.set_cons_succ]
            refine wpAnyH_take (i := 13) (oi := { dst := some 48, op := _, type := _, pos := _, after := _, guard := _ }) (v := .pointer (some ⟨bf, of' + j * 12, none⟩)) rfl (by kernel_rfl) (by kernel_rfl) (by kernel_rfl) (fun _ _ _ h => h) (Or.inl ⟨by rfl, ?_⟩) (by assumption) ?_
            · intro w hSw; (try dsimp only at hSw); go_simp
            try simp only [Act.put, List.setIfInBounds_toArray, List.set_cons_zero, List.set_cons_succ]
            refine wpAnyH_take (i := 14) (oi := { dst := some 49, op := _, type := _, pos := _, after := _, guard := _ }) (v := .string p.fs[j].n) rfl (by kernel_rfl) (by kernel_rfl) (by kernel_rfl) (fun _ _ _ h => h) (Or.inl ⟨by rfl, ?_⟩) (by assumption) ?_
            · intro w hSw; (try dsimp only at hSw); go_simp
            try simp only [Act.put, List.setIfInBounds_toArray, List.set_cons_zero, List.set_cons_succ]
            refine wpAnyH_take (i := 16) (oi := { dst := some 51, op := _, type := _, pos := _, after := _, guard := _ }) (v := .int .i64 j) rfl (by kernel_rfl) (by kernel_rfl) (by kernel_rfl) (fun _ _ _ h => h) (Or.inl ⟨by rfl, ?_⟩) (by assumption) ?_
            · intro w hSw; (try dsimp only at hSw); go_simp
            try simp only [Act.put, List.setIfInBounds_toArray, List.set_cons_zero, List.set_cons_succ]
            refine wpAnyH_ready (rs := [15]) (by kernel_rfl) (by simp) ?_
            refine AllReadyH.cons (o := { dst := some 50, op := _, type := _, pos := _, after := _, guard := _ }) rfl (fun K hK => ?_) AllReadyH.nil
            go_simp
            go_at_call 28
            refine (spec_namedF p.fs _ (some ⟨bf, of', none⟩) p.fc p.fs[j].n (gSl.grow dfLen dfGr HF.out ((Gw.refl wr).drew.trans g2))).mono ?_
            rintro e w3 ⟨r, rfl, hr, g3⟩
            have k3 : ∀ b o, b < wr.heap.size → w3.cell? ⟨b, o, none⟩ = wr.cell? ⟨b, o, none⟩ := fun b o h => ((bcell g3).1 b o (Nat.lt_of_lt_of_le h g2.size)).trans (k2 b o h)
            have HIX := Lib.hid (ix_own hlt hr)
            clear hr
            go_wp2_with fail
            refine hK.out _ _ ⟨(k3 _ _ lB).trans cP, (k3 _ _ lF).trans c0, (k3 _ _ lF).trans c1, (k3 _ _ lF).trans c2, (k3 _ _ lF).trans c3⟩ (fun hHeld => ?_)
            clear hK K
            try simp only [Act.put, List.setIfInBounds_toArray, List.set_cons_zero, List.set_cons_succ]
            have hne : (r != (j : Int)) = false := by have := HIX.out.2.1 HH.out; simp; omega
            refine wpAnyH_take (i := 17) (oi := { dst := some 52, op := _, type := _, pos := _, after := _, guard := _ }) (v := .bool false) rfl (by kernel_rfl) (by kernel_rfl) (by kernel_rfl) (fun _ _ _ h => h) (Or.inl ⟨by rfl, ?_⟩) (by assumption) ?_
            · intro w hSw; (try dsimp only at hSw); go_simp
            try simp only [Act.put, List.setIfInBounds_toArray, List.set_cons_zero, List.set_cons_succ]
            refine wpAnyH_take (i := 18) (oi := { dst := some 53, op := _, type := _, pos := _, after := _, guard := _ }) (v := .bool false) rfl (by kernel_rfl) (by kernel_rfl) (by kernel_rfl) (fun _ _ _ h => h) (Or.inl ⟨by rfl, ?_⟩) (by assumption) ?_
            · intro w hSw; (try dsimp only at hSw); go_simp
            try simp only [Act.put, List.setIfInBounds_toArray, List.set_cons_zero, List.set_cons_succ]
            refine wpAnyH_take (i := 19) (oi := { dst := some 54, op := _, type := _, pos := _, after := _, guard := _ }) (v := .bool false) rfl (by kernel_rfl) (by kernel_rfl) (by kernel_rfl) (fun _ _ _ h => h) (Or.inl ⟨by rfl, ?_⟩) (by assumption) ?_
            · intro w hSw; (try dsimp only at hSw); go_simp
            try simp only [Act.put, List.setIfInBounds_toArray, List.set_cons_zero, List.set_cons_succ]
            refine wpAnyH_take (i := 20) (oi := { dst := some 55, op := _, type := _, pos := _, after := _, guard := _ }) (v := .pointer (some ⟨bf, of' + j * 12, none⟩)) rfl (by kernel_rfl) (by kernel_rfl) (by kernel_rfl) (fun _ _ _ h => h) (Or.inl ⟨by rfl, ?_⟩) (by assumption) ?_
            · intro w hSw; (try dsimp only at hSw); go_simp
            try simp only [Act.put, List.setIfInBounds_toArray, List.set_cons_zero, List.set_cons_succ]
            refine wpAnyH_take (i := 21) (oi := { dst := some 56, op := _, type := _, pos := _, after := _, guard := _ }) (v := .pointer (some ⟨bf, of' + j * 12, none⟩)) rfl (by kernel_rfl) (by kernel_rfl) (by kernel_rfl) (fun _ _ _ h => h) (Or.inl ⟨by rfl, ?_⟩) (by assumption) ?_
            · intro w hSw; (try dsimp only at hSw); go_simp
            try simp only [Act.put, List.setIfInBounds_toArray, List.set_cons_zero, List.set_cons_succ]
            refine wpAnyH_take (i := 22) (oi := { dst := some 57, op := _, type := _, pos := _, after := _, guard := _ }) (v := .pointer (some ⟨bf, of' + j * 12 + 1, none⟩)) rfl (by kernel_rfl) (by kernel_rfl) (by kernel_rfl) (fun _ _ _ h => h) (Or.inl ⟨by rfl, ?_⟩) (by assumption) ?_
            · intro w hSw; (try dsimp only at hSw); go_simp
            try simp only [Act.put, List.setIfInBounds_toArray, List.set_cons_zero, List.set_cons_succ]
            refine wpAnyH_take (i := 23) (oi := { dst := some 58, op := _, type := _, pos := _, after := _, guard := _ }) (v := .agg #[.int .i64 p.fs[j].t.k, .string p.fs[j].t.n, .slice p.fs[j].t.a p.fs[j].t.ks.length p.fs[j].t.cap]) rfl (by kernel_rfl) (by kernel_rfl) (by kernel_rfl) (fun _ _ _ h => h) (Or.inl ⟨by rfl, ?_⟩) (by assumption) ?_
            · intro w hSw; (try dsimp only at hSw); go_simp
            try simp only [Act.put, List.setIfInBounds_toArray, List.set_cons_zero, List.set_cons_succ]
            refine wpAnyH_ready (rs := [24]) (by kernel_rfl) (by simp) ?_
            refine AllReadyH.cons (o := { dst := some 59, op := _, type := _, pos := _, after := _, guard := _ }) rfl (fun K hK => ?_) AllReadyH.nil
            go_simp
            go_at_call 60
            refine (spec_valid p.fs[j].t _ (DK.out.2.1.grow (((Gw.refl wr).drew.trans g2).trans g3))).mono ?_
            rw [HV.out]
            rintro e w4 ⟨rfl, g4⟩
            have k4 : ∀ b o, b < wr.heap.size → w4.cell? ⟨b, o, none⟩ = wr.cell? ⟨b, o, none⟩ := fun b o h => ((bcell g4).1 b o (Nat.lt_of_lt_of_le h (Nat.le_trans g2.size g3.size))).trans (k3 b o h)
            go_wp2_with fail
            refine hK.out _ _ ⟨(k4 _ _ lB).trans cP, (k4 _ _ lF).trans c0, (k4 _ _ lF).trans c1, (k4 _ _ lF).trans c2, (k4 _ _ lF).trans c3⟩ (fun hHeld => ?_)
            clear hK K
            try simp only [Act.put, List.setIfInBounds_toArray, List.set_cons_zero, List.set_cons_succ]
            refine wpAnyH_take (i := 25) (oi := { dst := some 60, op := _, type := _, pos := _, after := _, guard := _ }) (v := .bool true) rfl (by kernel_rfl) (by kernel_rfl) (by kernel_rfl) (fun _ _ _ h => h) (Or.inl ⟨by rfl, ?_⟩) (by assumption) ?_
            · intro w hSw; (try dsimp only at hSw); go_simp
            try simp only [Act.put, List.setIfInBounds_toArray, List.set_cons_zero, List.set_cons_succ]
            refine wpAnyH_take (i := 26) (oi := { dst := some 61, op := _, type := _, pos := _, after := _, guard := _ }) (v := .bool true) rfl (by kernel_rfl) (by kernel_rfl) (by kernel_rfl) (fun _ _ _ h => h) (Or.inl ⟨by rfl, ?_⟩) (by assumption) ?_
            · intro w hSw; (try dsimp only at hSw); go_simp
            try simp only [Act.put, List.setIfInBounds_toArray, List.set_cons_zero, List.set_cons_succ]
            refine wpAnyH_take (i := 27) (oi := { dst := some 62, op := _, type := _, pos := _, after := _, guard := _ }) (v := .bool true) rfl (by kernel_rfl) (by kernel_rfl) (by kernel_rfl) (fun _ _ _ h => h) (Or.inl ⟨by rfl, ?_⟩) (by assumption) ?_
            · intro w hSw; (try dsimp only at hSw); go_simp
            try simp only [Act.put, List.setIfInBounds_toArray, List.set_cons_zero, List.set_cons_succ]
            refine wpAnyH_take (i := 28) (oi := { dst := some 63, op := _, type := _, pos := _, after := _, guard := _ }) (v := undef) rfl (by kernel_rfl) (by kernel_rfl) (by kernel_rfl) (fun _ _ _ h => h) (Or.inr ⟨by rfl, rfl⟩) (by assumption) ?_
            try simp only [Act.put, List.setIfInBounds_toArray, List.set_cons_zero, List.set_cons_succ]
            refine wpAnyH_take (i := 29) (oi := { dst := some 64, op := _, type := _, pos := _, after := _, guard := _ }) (v := undef) rfl (by kernel_rfl) (by kernel_rfl) (by kernel_rfl) (fun _ _ _ h => h) (Or.inr ⟨by rfl, rfl⟩) (by assumption) ?_
            try simp only [Act.put, List.setIfInBounds_toArray, List.set_cons_zero, List.set_cons_succ]
            refine wpAnyH_take (i := 30) (oi := { dst := some 65, op := _, type := _, pos := _, after := _, guard := _ }) (v := undef) rfl (by kernel_rfl) (by kernel_rfl) (by kernel_rfl) (fun _ _ _ h => h) (Or.inr ⟨by rfl, rfl⟩) (by assumption) ?_
            try simp only [Act.put, List.setIfInBounds_toArray, List.set_cons_zero, List.set_cons_succ]
            refine wpAnyH_take (i := 31) (oi := { dst := some 66, op := _, type := _, pos := _, after := _, guard := _ }) (v := undef) rfl (by kernel_rfl) (by kernel_rfl) (by kernel_rfl) (fun _ _ _ h => h) (Or.inr ⟨by rfl, rfl⟩) (by assumption) ?_
            try simp only [Act.put, List.setIfInBounds_toArray, List.set_cons_zero, List.set_cons_succ]
            refine wpAnyH_take (i := 32) (oi := { dst := some 67, op := _, type := _, pos := _, after := _, guard := _ }) (v := undef) rfl (by kernel_rfl) (by kernel_rfl) (by kernel_rfl) (fun _ _ _ h => h) (Or.inr ⟨by rfl, rfl⟩) (by assumption) ?_
            try simp only [Act.put, List.setIfInBounds_toArray, List.set_cons_zero, List.set_cons_succ]
            refine wpAnyH_take (i := 33) (oi := { dst := some 68, op := _, type := _, pos := _, after := _, guard := _ }) (v := .bool true) rfl (by kernel_rfl) (by kernel_rfl) (by kernel_rfl) (fun _ _ _ h => h) (Or.inl ⟨by rfl, ?_⟩) (by assumption) ?_
            · intro w hSw; (try dsimp only at hSw); go_simp
            try simp only [Act.put, List.setIfInBounds_toArray, List.set_cons_zero, List.set_cons_succ]
            refine wpAnyH_done (by kernel_rfl) ?_ _
            go_wp2_with fail
            go_ret
            exact ⟨ret_b (by rw [progB_bad (defsB_bad (i := j) (by simpa using hlt) (by rw [HDB.out]; simp [HL.out, HH.out, HV.out]))]), G2.out.trans (HG.out.trans ((((Gw.refl wr).drew.trans g2).trans g3).trans g4))⟩
          | true =>
            have HV := Lib.hid hV
            clear hV
            go_region_held3 (fun W => W.cell? ⟨b, o + 1, none⟩ = some (.slice (some ⟨bf, of', none⟩) p.fs.length p.fc) ∧ W.cell? ⟨bf, of' + j * 12, none⟩ = some (.string p.fs[j].n) ∧ W.cell? ⟨bf, of' + j * 12 + 1, none⟩ = some (.int .i64 p.fs[j].t.k) ∧ W.cell? ⟨bf, of' + j * 12 + 2, none⟩ = some (.string p.fs[j].t.n) ∧ W.cell? ⟨bf, of' + j * 12 + 3, none⟩ = some (.slice p.fs[j].t.a p.fs[j].t.ks.length p.fs[j].t.cap))
              (first | exact ⟨cP, c0, c1, c2, c3⟩ | exact ⟨(k2 _ _ lB).trans cP, (k2 _ _ lF).trans c0, (k2 _ _ lF).trans c1, (k2 _ _ lF).trans c2, (k2 _ _ lF).trans c3⟩ | exact ⟨(k3 _ _ lB).trans cP, (k3 _ _ lF).trans c0, (k3 _ _ lF).trans c1, (k3 _ _ lF).trans c2, (k3 _ _ lF).trans c3⟩ | exact ⟨(k4 _ _ lB).trans cP, (k4 _ _ lF).trans c0, (k4 _ _ lF).trans c1, (k4 _ _ lF).trans c2, (k4 _ _ lF).trans c3⟩ | exact ⟨(k5 _ _ lB).trans cP, (k5 _ _ lF).trans c0, (k5 _ _ lF).trans c1, (k5 _ _ lF).trans c2, (k5 _ _ lF).trans c3⟩)
              (first
                | (go_at_call 59; refine (spec_lower p.fs[j].n hk2 _).mono ?_; rw [HL.out]; rintro e w2 ⟨rfl, g2⟩; have k2 : ∀ b o, b < wr.heap.size → w2.cell? ⟨b, o, none⟩ = wr.cell? ⟨b, o, none⟩ := fun b o h => (bcell g2).1 b o h)
                | (go_at_call 28; refine (spec_namedF p.fs _ (some ⟨bf, of', none⟩) p.fc p.fs[j].n (by exact gSl.grow dfLen dfGr HF.out ((Gw.refl wr).drew.trans g2))).mono ?_; rintro e w3 ⟨r, rfl, hr, g3⟩; obtain rfl := (ix_own hlt hr).2.1 HH.out; have k3 : ∀ b o, b < wr.heap.size → w3.cell? ⟨b, o, none⟩ = wr.cell? ⟨b, o, none⟩ := fun b o h => ((bcell g3).1 b o (Nat.lt_of_lt_of_le h g2.size)).trans (k2 b o h); have hne : ((j : Int) != (j : Int)) = false := by simp)
                | (go_at_call 60; refine (spec_valid p.fs[j].t _ (by exact DK.out.2.1.grow (((Gw.refl wr).drew.trans g2).trans g3))).mono ?_; rw [HV.out]; rintro e w4 ⟨rfl, g4⟩; have k4 : ∀ b o, b < wr.heap.size → w4.cell? ⟨b, o, none⟩ = wr.cell? ⟨b, o, none⟩ := fun b o h => ((bcell g4).1 b o (Nat.lt_of_lt_of_le h (Nat.le_trans g2.size g3.size))).trans (k3 b o h))
                | (go_at_call 38; refine (spec_l03Ok p.fs[j].u _ bf (of' + j * 12 + 4) (by exact TA.out.grow ((((Gw.refl wr).drew.trans g2).trans g3).trans g4))).mono ?_; rintro e w5 ⟨rfl, g5⟩; have k5 : ∀ b o, b < wr.heap.size → w5.cell? ⟨b, o, none⟩ = wr.cell? ⟨b, o, none⟩ := fun b o h => ((bcell g5).1 b o (Nat.lt_of_lt_of_le h (Nat.le_trans (Nat.le_trans g2.size g3.size) g4.size))).trans (k4 b o h)))
            have GW := Lib.hid (HG.out.trans (((((Gw.refl wr).drew.trans g2).trans g3).trans g4).trans g5))
            clear k2 k3 k4 k5 g2 g3 g4 g5
            cases hU : okT p.fs[j].u.tm with
            | false =>
              have HU := Lib.hid hU
              clear hU
              go_wp2_with fail
              go_ret
              exact ⟨ret_b (by rw [progB_bad (defsB_bad (i := j) (by simpa using hlt) (by rw [HDB.out]; simp [HU.out]))]), G2.out.trans GW.out⟩
            | true =>
              have HU := Lib.hid hU
              clear hU
              go_wp2_with fail
              go_roundw
              case rel =>
                refine ⟨j + 1, by omega, by go_num, GW.out, fun x hx => ?_⟩
                by_cases e : x = j
                · subst e; rw [HDB.out, HL.out, HH.out, HV.out, HU.out]; rfl
                · exact HALL.out x (by omega)
              case measure => simp [intOf]; omega
    · obtain rfl : j = p.fs.length := by omega
      have F := Lib.hid (progB_yes HD.out HI.out (defsB_all (F := p.fs.map LF.df) fun i hi => HALL.out i (by simpa using hi)))
      go_wp2_with fail
      go_ret
      exact ⟨ret_b F.out.symm, G2.out.trans HG.out⟩

end Go.Proofs.YtkfplnnncfkjfaaDoor.Con

namespace Go.Proofs.YtkfplnnncfkjfaaDoor.Con
open Go.RowKit
set_option linter.unusedVariables false

/-- A program in a block of its own. -/
def PBox (W : World) (b : Nat) (p : LP) : Prop := ∃ e, W.heap[b]? = some (.cells #[.slice p.da p.ds.length p.dc, .slice p.fa p.fs.length p.fc] e (0, 0))
theorem PBox.new (W : World) (p : LP) (e : TypeId) : PBox (W.alloc (.cells #[.slice p.da p.ds.length p.dc, .slice p.fa p.fs.length p.fc] e)) W.heap.size p := ⟨e, heap_alloc_new W _⟩
theorem PBox.c {W : World} {b : Nat} {p : LP} (h : PBox W b p) : W.cell? ⟨b, 0, none⟩ = some (.slice p.da p.ds.length p.dc) ∧ W.cell? ⟨b, 1, none⟩ = some (.slice p.fa p.fs.length p.fc) := by
  obtain ⟨e, h⟩ := h
  exact ⟨cell_of_row _ _ 0 _ _ _ h, cell_of_row _ _ 1 _ _ _ h⟩
theorem PBox.lt {W : World} {b : Nat} {p : LP} (h : PBox W b p) : b < W.heap.size := by
  obtain ⟨e, h⟩ := h
  exact (Array.getElem?_eq_some_iff.1 h).1
theorem PBox.grow {W W' : World} {b : Nat} {p : LP} (h : PBox W b p) (g : Gw W W') : PBox W' b p := by
  have hl := h.lt
  obtain ⟨e, h⟩ := h
  exact ⟨e, (g.block b hl).trans h⟩

/-- A definition in a block of its own. -/
def FBox (W : World) (b : Nat) (f : LF) : Prop := ∃ e, W.heap[b]? = some (.cells #[.string f.n, .int .i64 f.t.k, .string f.t.n, .slice f.t.a f.t.ks.length f.t.cap, .int .i64 f.u.k, .int .i64 f.u.m, .string f.u.n, .int .i64 f.u.t.k, .string f.u.t.n, .slice f.u.t.a f.u.t.ks.length f.u.t.cap, .slice f.u.na f.u.ns.length f.u.nc, .slice f.u.a f.u.ks.length f.u.cap] e (0, 0))
theorem FBox.new (W : World) (f : LF) (e : TypeId) : FBox (W.alloc (.cells #[.string f.n, .int .i64 f.t.k, .string f.t.n, .slice f.t.a f.t.ks.length f.t.cap, .int .i64 f.u.k, .int .i64 f.u.m, .string f.u.n, .int .i64 f.u.t.k, .string f.u.t.n, .slice f.u.t.a f.u.t.ks.length f.u.t.cap, .slice f.u.na f.u.ns.length f.u.nc, .slice f.u.a f.u.ks.length f.u.cap] e)) W.heap.size f := ⟨e, heap_alloc_new W _⟩
theorem FBox.lt {W : World} {b : Nat} {f : LF} (h : FBox W b f) : b < W.heap.size := by
  obtain ⟨e, h⟩ := h
  exact (Array.getElem?_eq_some_iff.1 h).1
theorem FBox.grow {W W' : World} {b : Nat} {f : LF} (h : FBox W b f) (g : Gw W W') : FBox W' b f := by
  have hl := h.lt
  obtain ⟨e, h⟩ := h
  exact ⟨e, (g.block b hl).trans h⟩
theorem FBox.c {W : World} {b : Nat} {f : LF} (h : FBox W b f) : W.cell? ⟨b, 0, none⟩ = some (.string f.n) ∧ W.cell? ⟨b, 1, none⟩ = some (.int .i64 f.t.k) ∧ W.cell? ⟨b, 2, none⟩ = some (.string f.t.n) ∧ W.cell? ⟨b, 3, none⟩ = some (.slice f.t.a f.t.ks.length f.t.cap) ∧ W.cell? ⟨b, 4, none⟩ = some (.int .i64 f.u.k) ∧ W.cell? ⟨b, 5, none⟩ = some (.int .i64 f.u.m) ∧ W.cell? ⟨b, 6, none⟩ = some (.string f.u.n) ∧ W.cell? ⟨b, 7, none⟩ = some (.int .i64 f.u.t.k) ∧ W.cell? ⟨b, 8, none⟩ = some (.string f.u.t.n) ∧ W.cell? ⟨b, 9, none⟩ = some (.slice f.u.t.a f.u.t.ks.length f.u.t.cap) ∧ W.cell? ⟨b, 10, none⟩ = some (.slice f.u.na f.u.ns.length f.u.nc) ∧ W.cell? ⟨b, 11, none⟩ = some (.slice f.u.a f.u.ks.length f.u.cap) := by
  obtain ⟨e, h⟩ := h
  exact ⟨cell_of_row _ _ 0 _ _ _ h, cell_of_row _ _ 1 _ _ _ h, cell_of_row _ _ 2 _ _ _ h, cell_of_row _ _ 3 _ _ _ h, cell_of_row _ _ 4 _ _ _ h, cell_of_row _ _ 5 _ _ _ h, cell_of_row _ _ 6 _ _ _ h, cell_of_row _ _ 7 _ _ _ h, cell_of_row _ _ 8 _ _ _ h, cell_of_row _ _ 9 _ _ _ h, cell_of_row _ _ 10 _ _ _ h, cell_of_row _ _ 11 _ _ _ h⟩

set_option maxRecDepth 100000 in
set_option maxHeartbeats 2000000 in
theorem impl_validP (p : LP) (w : World) (h : pOk w p) (hT : Tbl w) : Calls Tryd.prog 31 #[p.val] w (BoolGw (progB p.pr) w) := by
  have hl : p.fs.length ≤ 9223372036854775807 := Nat.le_trans h.2.1 h.2.2.1
  have g0 := (Gw.refl w).alloc (.cells #[.slice p.da p.ds.length p.dc, .slice p.fa p.fs.length p.fc] 32)
  have PB := PBox.new w p 32
  have OK := Lib.hid (h.grow g0)
  have TB := Lib.hid (hT.grow g0)
  clear h hT
  go_enter Tryd.func31, Tryd.ntmps31
  go_upto_region 1 with (fail)
  generalize w.alloc (.cells #[.slice p.da p.ds.length p.dc, .slice p.fa p.fs.length p.fc] 32) = w1 at *
  generalize w.heap.size = B at *
  have G1 := Lib.hid g0
  clear g0
  obtain ⟨c0, c1⟩ := PB.c
  go_wp2_with fail
  refine (impl_ok p.ds _ p.da p.dc OK.out.1).mono ?_
  rintro e w2 ⟨rfl, g2⟩
  replace PB := PB.grow g2
  replace OK := Lib.hid (OK.out.grow g2)
  replace TB := Lib.hid (TB.out.grow g2)
  replace G1 := Lib.hid (G1.out.trans g2)
  clear c0 c1 g2
  obtain ⟨c0, c1⟩ := PB.c
  cases hd : datasB (p.ds.map dty) with
  | false =>
    have F := Lib.hid (progB_d hd)
    clear hd
    go_wp2_with fail
    go_ret
    exact ⟨ret_b F.out.symm, G1.out⟩
  | true =>
  have HD := Lib.hid hd
  clear hd
  by_cases hin : 1 ≤ p.fs.length ∧ p.fs.length ≤ 8
  case neg =>
    have F := Lib.hid (progB_l (p := p) (by unfold inI; simp; omega))
    by_cases h0 : p.fs.length = 0
    · have e0 : ((p.fs.length : Int) == 0) = true := by rw [h0]; rfl
      clear hin h0
      go_wp2_with fail
      go_ret
      exact ⟨ret_b F.out.symm, G1.out⟩
    · have e0 : ((p.fs.length : Int) == 0) = false := beq_eq_false_iff_ne.2 (by omega)
      have e1 : decide ((8 : Int) < p.fs.length) = true := decide_eq_true (by omega)
      clear hin h0
      go_wp2_with fail
      go_ret
      exact ⟨ret_b F.out.symm, G1.out⟩
  have HI := Lib.hid (show inI p.fs.length 1 8 = true from by unfold inI; simp; omega)
  have e0 : ((p.fs.length : Int) == 0) = false := beq_eq_false_iff_ne.2 (by omega)
  have e1 : decide ((8 : Int) < p.fs.length) = false := decide_eq_false (by omega)
  clear hin
  go_wp2_with fail
  clear c0 c1 e0 e1
  go_loopw [24] (fun i wr => ∃ j : Nat, j ≤ p.fs.length ∧ i = .int .i64 j ∧ Gw w2 wr ∧ ∀ x, x < j → dfOkB (p.fs.map LF.df) x = true) (fun i _ => p.fs.length - (intOf i).toNat)
  case atStart => exact ⟨0, by omega, rfl, Gw.refl _, fun x h => absurd h (by omega)⟩
  case round =>
    obtain ⟨j, hj, rfl, hg, hall⟩ := hrel
    have HALL := Lib.hid hall
    have HG := Lib.hid (G1.out.trans hg)
    have HG2 := Lib.hid hg
    have PB3 := PB.grow hg
    have OK3 := Lib.hid (OK.out.grow hg)
    have TB3 := Lib.hid (TB.out.grow hg)
    clear hall hg
    by_cases hlt : j < p.fs.length
    · obtain ⟨bf, of', ea, hr⟩ := OK3.out.2.2.2.resolve_left (fun e => by rw [e] at hlt; simp at hlt)
      obtain ⟨c0, c1, c2, c3, c4, c5, c6, c7, c8, c9, c10, c11, dk⟩ := dfRow_get hr j hlt
      obtain ⟨P0, P1⟩ := PB3.c
      have hsl := OK3.out.2
      have DK := Lib.hid dk
      have HDB := Lib.hid (dfOkB_eq hlt)
      have hk2 : p.fs[j].n.size ≤ 9223372036854775807 := dk.1
      have r0 : (0 : Int) ≤ j := by omega
      have r1 : (j : Int) < p.fs.length := by omega
      have HSL := Lib.hid hsl
      have EA := Lib.hid ea
      clear hr dk hsl
      rw [ea]
      clear ea
      go_upto_region 6 with (fail)
      clear c0 c1 c2 c3 c4 c5 c6 c7 c8 c9 c10 c11 P0 P1
      have GA := Lib.hid ((Gw.refl wr).alloc (.cells #[.string p.fs[j].n, .int .i64 p.fs[j].t.k, .string p.fs[j].t.n, .slice p.fs[j].t.a p.fs[j].t.ks.length p.fs[j].t.cap, .int .i64 p.fs[j].u.k, .int .i64 p.fs[j].u.m, .string p.fs[j].u.n, .int .i64 p.fs[j].u.t.k, .string p.fs[j].u.t.n, .slice p.fs[j].u.t.a p.fs[j].u.t.ks.length p.fs[j].u.t.cap, .slice p.fs[j].u.na p.fs[j].u.ns.length p.fs[j].u.nc, .slice p.fs[j].u.a p.fs[j].u.ks.length p.fs[j].u.cap] 101))
      have FB := FBox.new wr p.fs[j] 101
      generalize wr.alloc (.cells #[.string p.fs[j].n, .int .i64 p.fs[j].t.k, .string p.fs[j].t.n, .slice p.fs[j].t.a p.fs[j].t.ks.length p.fs[j].t.cap, .int .i64 p.fs[j].u.k, .int .i64 p.fs[j].u.m, .string p.fs[j].u.n, .int .i64 p.fs[j].u.t.k, .string p.fs[j].u.t.n, .slice p.fs[j].u.t.a p.fs[j].u.t.ks.length p.fs[j].u.t.cap, .slice p.fs[j].u.na p.fs[j].u.ns.length p.fs[j].u.nc, .slice p.fs[j].u.a p.fs[j].u.ks.length p.fs[j].u.cap] 101) = w3 at *
      generalize wr.heap.size = D at *
      have HG3 := Lib.hid (HG.out.trans GA.out)
      have H23 := Lib.hid (HG2.out.trans GA.out)
      replace PB3 := PB3.grow GA.out
      replace DK := Lib.hid (dfGr _ _ _ DK.out GA.out)
      replace TB3 := Lib.hid (TB3.out.grow GA.out)
      replace HSL := Lib.hid (gSl.grow dfLen dfGr HSL.out GA.out)
      clear GA
      obtain ⟨c0, _⟩ := FB.c
      have hbad : ∀ (P : Prop), dfOkB (p.fs.map LF.df) j = false → progB p.pr = false := fun _ h => progB_bad (defsB_bad (i := j) (by simpa using hlt) h)
      have BAD := Lib.hid hbad
      clear hbad
      cases hL : lowerB p.fs[j].n with
      | false =>
        have key := impl_lower p.fs[j].n hk2 w3
        rw [hL] at key
        have KEY := Lib.hid key
        have HL := Lib.hid hL
        clear key hL
        go_wp2_with fail
        refine KEY.out.mono ?_
        rintro e w4 ⟨rfl, g4⟩
        clear c0
        go_wp2_with fail
        go_ret
        exact ⟨ret_b (BAD.out True (by rw [HDB.out, HL.out]; rfl)).symm, HG3.out.trans g4⟩
      | true =>
      have key := impl_lower p.fs[j].n hk2 w3
      rw [hL] at key
      have KEY := Lib.hid key
      have HL := Lib.hid hL
      clear key hL
      go_wp2_with fail
      refine KEY.out.mono ?_
      rintro e w4 ⟨rfl, g4⟩
      clear c0 KEY
      replace PB3 := PB3.grow g4
      replace FB := FB.grow g4
      replace DK := Lib.hid (dfGr _ _ _ DK.out g4)
      replace TB3 := Lib.hid (TB3.out.grow g4)
      replace HSL := Lib.hid (gSl.grow dfLen dfGr HSL.out g4)
      replace HG3 := Lib.hid (HG3.out.trans g4)
      replace H23 := Lib.hid (H23.out.trans g4)
      clear g4
      obtain ⟨_, P1⟩ := PB3.c
      obtain ⟨c0, _⟩ := FB.c
      go_wp2_with fail
      refine (impl_defIndex p.fs _ p.fa p.fc p.fs[j].n HSL.out).mono ?_
      rintro e w5 ⟨r, rfl, hr, g5⟩
      have HIX := Lib.hid (ix_own hlt hr)
      clear hr P1 c0
      replace PB3 := PB3.grow g5
      replace FB := FB.grow g5
      replace DK := Lib.hid (dfGr _ _ _ DK.out g5)
      replace TB3 := Lib.hid (TB3.out.grow g5)
      replace HG3 := Lib.hid (HG3.out.trans g5)
      replace H23 := Lib.hid (H23.out.trans g5)
      clear g5 HSL
      cases hh : hasB ((p.fs.map LF.n).take j) p.fs[j].n with
      | true =>
        have HH := Lib.hid hh
        have hlt' : decide (r < (j : Int)) = true := decide_eq_true (HIX.out.2.2 hh)
        clear hh HIX
        go_wp2_with fail
        go_ret
        exact ⟨ret_b (BAD.out True (by rw [HDB.out, HL.out, HH.out]; rfl)).symm, HG3.out⟩
      | false =>
      have HH := Lib.hid hh
      obtain rfl := HIX.out.2.1 hh
      have hlt' : decide ((j : Int) < (j : Int)) = false := decide_eq_false (by omega)
      clear hh HIX
      obtain ⟨_, c1, c2, c3, _⟩ := FB.c
      go_wp2_with fail
      refine (impl_valid p.fs[j].t _ DK.out.2.1).mono ?_
      cases hV : validB p.fs[j].t.ty with
      | false =>
        have HV := Lib.hid hV
        clear hV
        rintro e w6 ⟨rfl, g6⟩
        clear c1 c2 c3
        go_wp2_with fail
        go_ret
        exact ⟨ret_b (BAD.out True (by rw [HDB.out, HL.out, HH.out, HV.out]; rfl)).symm, HG3.out.trans g6⟩
      | true =>
      have HV := Lib.hid hV
      clear hV
      rintro e w6 ⟨rfl, g6⟩
      clear c1 c2 c3
      replace FB := FB.grow g6
      replace DK := Lib.hid (dfGr _ _ _ DK.out g6)
      replace TB3 := Lib.hid (TB3.out.grow g6)
      replace HG3 := Lib.hid (HG3.out.trans g6)
      replace H23 := Lib.hid (H23.out.trans g6)
      clear g6
      obtain ⟨_, _, _, _, c4, c5, c6, c7, c8, c9, c10, c11⟩ := FB.c
      go_wp2_with fail
      refine (impl_validTm p.fs[j].u _ DK.out.2.2 TB3.out).mono ?_
      cases hU : okT p.fs[j].u.tm with
      | false =>
        have HU := Lib.hid hU
        clear hU
        rintro e w7 ⟨rfl, g7⟩
        clear c4 c5 c6 c7 c8 c9 c10 c11
        go_wp2_with fail
        go_ret
        exact ⟨ret_b (BAD.out True (by rw [HDB.out, HL.out, HH.out, HV.out, HU.out]; rfl)).symm, HG3.out.trans g7⟩
      | true =>
      have HU := Lib.hid hU
      clear hU
      rintro e w7 ⟨rfl, g7⟩
      clear c4 c5 c6 c7 c8 c9 c10 c11
      replace H23 := Lib.hid (H23.out.trans g7)
      clear g7
      go_wp2_with fail
      go_roundw
      case rel =>
        refine ⟨j + 1, by omega, by go_num, H23.out, fun x hx => ?_⟩
        by_cases e : x = j
        · subst e; rw [HDB.out, HL.out, HH.out, HV.out, HU.out]; rfl
        · exact HALL.out x (by omega)
      case measure => simp [intOf]; omega
    · obtain rfl : j = p.fs.length := by omega
      have F := Lib.hid (progB_yes HD.out HI.out (defsB_all (F := p.fs.map LF.df) fun i hi => HALL.out i (by simpa using hi)))
      go_wp2_with fail
      go_ret
      exact ⟨ret_b F.out.symm, HG.out⟩

end Go.Proofs.YtkfplnnncfkjfaaDoor.Con
