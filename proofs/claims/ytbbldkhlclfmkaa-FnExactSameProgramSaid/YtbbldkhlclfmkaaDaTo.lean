/-
  The laws' own functions toConstructor, toConstructorS, toData, toDataS: copies in blocks of their own. Condition: the list was counted.
-/
import Derived.Test.YtbbldkhlclfmkaaDa
import Derived.Test.YtbbldkhlclfmkaaDaSz
namespace Go.Proofs.Ytbbldkhlclfmkaa.Con
open Go.RowKit
set_option linter.unusedVariables false

/-- What a declaration says, without its places. -/
def cty (c : LC) : ByteArray × List Ty := (c.n, c.xs.map LT.ty)
def dty (d : LD) : ByteArray × List (ByteArray × List Ty) := (d.n, d.xs.map cty)

def ToN {α β : Type} (ok : World → LN α → Prop) (cb : LN α → List Nat) (ty : LN α → β) (w : World) (c : LN α) (e : Ending) (w' : World) : Prop := ∃ u : LN α, e = .returned u.val ∧ ty u = ty c ∧ NewE ok cb w.heap.size w' u ∧ Gw w w'
def ToNS {α β : Type} (ok : World → LN α → Prop) (cb : LN α → List Nat) (ty : LN α → β) (w : World) (cs : List (LN α)) (e : Ending) (w' : World) : Prop :=
  ∃ (us : List (LN α)) (a : Option Addr) (cap : Nat), e = .returned (.slice a us.length cap) ∧ us.map ty = cs.map ty ∧ NewSl ok cb w.heap.size w' a cap us ∧ Gw w w'

theorem slOk_grow_of {w w' : World} {a : Option Addr} {cap : Nat} {ks : List LT} (h : slOk w a cap ks) (g : Below w.heap.size w w') : slOk w' a cap ks := h.grow g

theorem laws_toConstructor (t : LC) (w : World) (h : cOk w t) (hs : csz t ≤ 1048576) : Calls Try.prog 127 #[t.val] w (ToN cOk cbl cty w t) := by
  have hk := h.2
  have hz : csz t = t.n.size + LT.sz.szl t.xs := rfl
  have hz2 : LT.sz.szl t.xs ≤ 1048576 := by omega
  clear hz hs
  go_enter Try.func127, Try.ntmps127
  go_wp2_with fail
  refine (laws_toTypeS t.xs _ t.a t.cap ?_ hz2).mono ?_
  · exact slOk_grow_of hk ((((Below.refl _ _).alloc (Nat.le_refl _) _).alloc (by simp) _).alloc (by simp; omega) _)
  rintro e w1 ⟨us, a, cap, rfl, hus, hnew, hg⟩
  obtain ⟨hc, hf⟩ := bcell hg
  have hz := hg.size
  have hz' : w.heap.size + 3 ≤ w1.heap.size := by simp at hz; omega
  have HUS := Lib.hid hus
  have HNEW := Lib.hid hnew
  clear hus hnew
  go_wp2_with fail
  have hgw : Gw w w1 := (((Gw.refl w).alloc _).alloc _).alloc _ |>.trans hg
  have hnew := HNEW.out
  have hne : NewE cOk cbl (w.heap.size + 3) w1 ⟨t.n, a, cap, us⟩ := NewE.c (by simpa using hnew) h.1
  have hB : ∀ b, b < w.heap.size + 3 → b ∉ cbl ⟨t.n, a, cap, us⟩ := fun b hb hm => by have := (hne.2.2 b hm).1; omega
  refine bodyPost_ret (v := (LN.mk t.n a cap us).val) (by simp [results, Try.results127, go_sem, hc]) rfl ⟨⟨t.n, a, cap, us⟩, rfl, ?_, ?_, ?_⟩
  · show (t.n, us.map LT.ty) = (t.n, t.xs.map LT.ty); rw [HUS.out]
  · exact (((hne.far cFrames _ (hB _ (by simp)) _).far cFrames _ (hB _ (by simp)) _).far cFrames _ (hB _ (by simp)) _).mono (by omega)
  · exact ((Below.setCell hgw (by simp; omega) _).setCell (by simp) _).setCell (by simp) _

theorem laws_toConstructorS (ks : List LC) (w : World) (a : Option Addr) (cap : Nat) (h : nsl cOk w a cap ks) (hs : sm csz ks ≤ 1048576) :
    Calls Try.prog 115 #[.slice a ks.length cap] w (ToNS cOk cbl cty w ks) := by
  have hl : ks.length ≤ 1048576 := Nat.le_trans (sm_ge csz ks) hs
  obtain ⟨_, _, hrow⟩ := h
  obtain ⟨i0, hi, hz0, hz1, hz2⟩ := info_parts (P := Try.prog) (e := 101) (z := .agg #[.string ⟨#[]⟩, .slice none 0 0]) (size := 2) (bytes := 40) (by kernel_rfl)
  have hmk : ∀ W : World, (Instr.makeSlice 93 (.int .i64 (ks.length : Int)) (.int .i64 (ks.length : Int))).run Try.prog W = .ok (.slice (some ⟨W.heap.size, 0, none⟩) ks.length ks.length) (W.alloc (.cells (madeCells #[.string ⟨#[]⟩, .slice none 0 0] (ks.length * 2)) 101)) := fun W => by
    have hr := run_make (P := Try.prog) W 93 101 i0 _ Try.underlying93 hi hz0 .i64 .i64 (ks.length : Int) (ks.length : Int) (by omega) (Int.le_refl _) (by rw [hz2]; omega) (by omega)
    rw [Int.toNat_natCast, hz1] at hr
    exact hr
  have HI := Lib.hid hi
  clear hi hz0 hz1 hz2
  go_enter Try.func115, Try.ntmps115
  go_wp2_with fail
  have hgw0 : Gw w (w.alloc (.cells (madeCells #[.string ⟨#[]⟩, .slice none 0 0] (ks.length * 2)) 101)) := (Gw.refl w).alloc _
  go_loopw [4] (fun i wr => ∃ us : List LC, i = .int .i64 us.length ∧ us.map cty = (ks.take us.length).map cty ∧ FillN cOk cbl wr w.heap.size ks.length us ∧ Gw w wr) (fun i _ => ks.length - (intOf i).toNat)
  case atStart => exact ⟨[], rfl, rfl, FillN.start _ _ _ ⟨_, _, heap_alloc_new _ _, by rw [size_madeCells]; omega⟩, hgw0⟩
  case round =>
    obtain ⟨us, rfl, hty, hfill, hg⟩ := hrel
    have HT := Lib.hid hty
    have HF := Lib.hid hfill
    have hj : us.length ≤ ks.length := hfill.1
    clear hty hfill hgw0 HI hmk
    by_cases hlt : us.length < ks.length
    · have hrow' := hrow.resolve_left (fun e => by subst e; simp at hlt)
      obtain ⟨b, o, rfl, hr⟩ := hrow'
      obtain ⟨c0, c1, hk⟩ := (hr.grow hg (fun _ h => h.grow hg)) us.length hlt
      have hsm := sm_mem csz (List.getElem_mem hlt)
      clear hrow
      go_wp2_with fail
      refine (laws_toConstructor ks[us.length] _ hk (by omega)).mono ?_
      rintro e w1 ⟨u, rfl, hu, hnew, hg1⟩
      have HU := Lib.hid hu
      have HN := Lib.hid hnew
      clear hu hnew c0 c1
      have hF1 := HF.out.grow (fun h g => h.grow g) hg1
      obtain ⟨v0, x0⟩ := hF1.room (us.length * 2) (by omega)
      obtain ⟨v1, x1⟩ := hF1.room (us.length * 2 + 1) (by omega)
      have y0 := hF1.free (us.length * 2)
      have y1 := hF1.free (us.length * 2 + 1)
      have HF1 := Lib.hid hF1
      clear hF1
      go_wp2_with fail
      go_roundw
      case rel =>
        have hl1 : us.length + 1 = (us ++ [u]).length := by simp
        refine ⟨us ++ [u], by rw [← hl1]; go_num, ?_, HF1.out.put cFrames hlt HN.out (fun b hb => ((HF.out.2.2.2.2 b hb).2).lt) HF.out.lt, ?_⟩
        · rw [← hl1, List.take_succ_eq_append_getElem hlt, List.map_append, List.map_append, HT.out]; simp [HU.out]
        · exact (Below.setCell (hg.trans hg1) (by simp) _).setCell (by simp) _
      case measure => simp [intOf]; omega
    · have hall : us.length = ks.length := by omega
      have HA := Lib.hid hall
      clear hall
      have hdone := HF.out.done (cap := ks.length) (B := w.heap.size) hj (by unfold maxLen; omega) (Nat.le_refl _)
      have HD := Lib.hid hdone
      clear hdone
      go_wp2_with fail
      go_ret
      exact ⟨us, _, ks.length, ret_sl HA.out.symm, by rw [HT.out, HA.out, List.take_length], HD.out, hg⟩

theorem laws_toData (t : LD) (w : World) (h : dOk w t) (hs : dsz t ≤ 1048576) : Calls Try.prog 95 #[t.val] w (ToN dOk dbl dty w t) := by
  have hk := h.2
  have hz : dsz t = t.n.size + sm csz t.xs := rfl
  have hz2 : sm csz t.xs ≤ 1048576 := by omega
  clear hz hs
  go_enter Try.func95, Try.ntmps95
  go_wp2_with fail
  refine (laws_toConstructorS t.xs _ t.a t.cap ?_ hz2).mono ?_
  · exact csOk.grow hk ((((Below.refl _ _).alloc (Nat.le_refl _) _).alloc (by simp) _).alloc (by simp; omega) _)
  rintro e w1 ⟨us, a, cap, rfl, hus, hnew, hg⟩
  obtain ⟨hc, hf⟩ := bcell hg
  have hz := hg.size
  have hz' : w.heap.size + 3 ≤ w1.heap.size := by simp at hz; omega
  have HUS := Lib.hid hus
  have HNEW := Lib.hid hnew
  clear hus hnew
  go_wp2_with fail
  have hgw : Gw w w1 := (((Gw.refl w).alloc _).alloc _).alloc _ |>.trans hg
  have hnew := HNEW.out
  have hne : NewE dOk dbl (w.heap.size + 3) w1 ⟨t.n, a, cap, us⟩ := NewE.d (by simpa using hnew) h.1
  have hB : ∀ b, b < w.heap.size + 3 → b ∉ dbl ⟨t.n, a, cap, us⟩ := fun b hb hm => by have := (hne.2.2 b hm).1; omega
  refine bodyPost_ret (v := (LN.mk t.n a cap us).val) (by simp [results, Try.results95, go_sem, hc]) rfl ⟨⟨t.n, a, cap, us⟩, rfl, ?_, ?_, ?_⟩
  · show (t.n, us.map cty) = (t.n, t.xs.map cty); rw [HUS.out]
  · exact (((hne.far dFrames _ (hB _ (by simp)) _).far dFrames _ (hB _ (by simp)) _).far dFrames _ (hB _ (by simp)) _).mono (by omega)
  · exact ((Below.setCell hgw (by simp; omega) _).setCell (by simp) _).setCell (by simp) _

theorem laws_toDataS (ks : List LD) (w : World) (a : Option Addr) (cap : Nat) (h : nsl dOk w a cap ks) (hs : sm dsz ks ≤ 1048576) :
    Calls Try.prog 59 #[.slice a ks.length cap] w (ToNS dOk dbl dty w ks) := by
  have hl : ks.length ≤ 1048576 := Nat.le_trans (sm_ge dsz ks) hs
  obtain ⟨_, _, hrow⟩ := h
  obtain ⟨i0, hi, hz0, hz1, hz2⟩ := info_parts (P := Try.prog) (e := 95) (z := .agg #[.string ⟨#[]⟩, .slice none 0 0]) (size := 2) (bytes := 40) (by kernel_rfl)
  have hmk : ∀ W : World, (Instr.makeSlice 52 (.int .i64 (ks.length : Int)) (.int .i64 (ks.length : Int))).run Try.prog W = .ok (.slice (some ⟨W.heap.size, 0, none⟩) ks.length ks.length) (W.alloc (.cells (madeCells #[.string ⟨#[]⟩, .slice none 0 0] (ks.length * 2)) 95)) := fun W => by
    have hr := run_make (P := Try.prog) W 52 95 i0 _ Try.underlying52 hi hz0 .i64 .i64 (ks.length : Int) (ks.length : Int) (by omega) (Int.le_refl _) (by rw [hz2]; omega) (by omega)
    rw [Int.toNat_natCast, hz1] at hr
    exact hr
  have HI := Lib.hid hi
  clear hi hz0 hz1 hz2
  go_enter Try.func59, Try.ntmps59
  go_wp2_with fail
  have hgw0 : Gw w (w.alloc (.cells (madeCells #[.string ⟨#[]⟩, .slice none 0 0] (ks.length * 2)) 95)) := (Gw.refl w).alloc _
  go_loopw [4] (fun i wr => ∃ us : List LD, i = .int .i64 us.length ∧ us.map dty = (ks.take us.length).map dty ∧ FillN dOk dbl wr w.heap.size ks.length us ∧ Gw w wr) (fun i _ => ks.length - (intOf i).toNat)
  case atStart => exact ⟨[], rfl, rfl, FillN.start _ _ _ ⟨_, _, heap_alloc_new _ _, by rw [size_madeCells]; omega⟩, hgw0⟩
  case round =>
    obtain ⟨us, rfl, hty, hfill, hg⟩ := hrel
    have HT := Lib.hid hty
    have HF := Lib.hid hfill
    have hj : us.length ≤ ks.length := hfill.1
    clear hty hfill hgw0 HI hmk
    by_cases hlt : us.length < ks.length
    · have hrow' := hrow.resolve_left (fun e => by subst e; simp at hlt)
      obtain ⟨b, o, rfl, hr⟩ := hrow'
      obtain ⟨c0, c1, hk⟩ := (hr.grow hg (fun _ h => h.grow hg)) us.length hlt
      have hsm := sm_mem dsz (List.getElem_mem hlt)
      clear hrow
      go_wp2_with fail
      refine (laws_toData ks[us.length] _ hk (by omega)).mono ?_
      rintro e w1 ⟨u, rfl, hu, hnew, hg1⟩
      have HU := Lib.hid hu
      have HN := Lib.hid hnew
      clear hu hnew c0 c1
      have hF1 := HF.out.grow (fun h g => h.grow g) hg1
      obtain ⟨v0, x0⟩ := hF1.room (us.length * 2) (by omega)
      obtain ⟨v1, x1⟩ := hF1.room (us.length * 2 + 1) (by omega)
      have y0 := hF1.free (us.length * 2)
      have y1 := hF1.free (us.length * 2 + 1)
      have HF1 := Lib.hid hF1
      clear hF1
      go_wp2_with fail
      go_roundw
      case rel =>
        have hl1 : us.length + 1 = (us ++ [u]).length := by simp
        refine ⟨us ++ [u], by rw [← hl1]; go_num, ?_, HF1.out.put dFrames hlt HN.out (fun b hb => ((HF.out.2.2.2.2 b hb).2).lt) HF.out.lt, ?_⟩
        · rw [← hl1, List.take_succ_eq_append_getElem hlt, List.map_append, List.map_append, HT.out]; simp [HU.out]
        · exact (Below.setCell (hg.trans hg1) (by simp) _).setCell (by simp) _
      case measure => simp [intOf]; omega
    · have hall : us.length = ks.length := by omega
      have HA := Lib.hid hall
      clear hall
      have hdone := HF.out.done (cap := ks.length) (B := w.heap.size) hj (by unfold maxLen; omega) (Nat.le_refl _)
      have HD := Lib.hid hdone
      clear hdone
      go_wp2_with fail
      go_ret
      exact ⟨us, _, ks.length, ret_sl HA.out.symm, by rw [HT.out, HA.out, List.take_length], HD.out, hg⟩

end Go.Proofs.Ytbbldkhlclfmkaa.Con
