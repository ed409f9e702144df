/-
  The laws' own functions toTermS and toTerm: copies in blocks of their own. Condition: the term was counted.
-/
import Derived.Test.YtbbldkhlclfmkaaStrS
namespace Go.Proofs.Ytbbldkhlclfmkaa.Con
open Go.RowKit
set_option linter.unusedVariables false

def ToM (w : World) (t : LM) (e : Ending) (w' : World) : Prop := ∃ u : LM, e = .returned u.val ∧ u.tm = t.tm ∧ u.New w.heap.size w' ∧ Gw w w'
def ToMS (w : World) (ks : List LM) (e : Ending) (w' : World) : Prop := ∃ (us : List LM) (a : Option Addr) (cap : Nat), e = .returned (.slice a us.length cap) ∧ us.map LM.tm = ks.map LM.tm ∧ tmNew w.heap.size w' a cap us ∧ Gw w w'

theorem toTermS_of (ks : List LM) (ih : ∀ t ∈ ks, ∀ (w : World), t.Ok w → Calls Try.prog 20 #[t.val] w (ToM w t)) (w : World) (a : Option Addr) (cap : Nat) (h : tmSl w a cap ks) (hl : ks.length ≤ 1048576) :
    Calls Try.prog 52 #[.slice a ks.length cap] w (ToMS w ks) := by
  obtain ⟨_, _, hrow⟩ := h
  obtain ⟨i0, hi, hz0, hz1, hz2⟩ := info_parts (P := Try.prog) (e := 43) (z := .agg #[.int .i64 0, .int .i64 0, .string ⟨#[]⟩, .int .i64 0, .string ⟨#[]⟩, .slice none 0 0, .slice none 0 0, .slice none 0 0]) (size := 8) (bytes := 128) (by kernel_rfl)
  have hmk : ∀ W : World, (Instr.makeSlice 41 (.int .i64 (ks.length : Int)) (.int .i64 (ks.length : Int))).run Try.prog W = .ok (.slice (some ⟨W.heap.size, 0, none⟩) ks.length ks.length) (W.alloc (.cells (madeCells #[.int .i64 0, .int .i64 0, .string ⟨#[]⟩, .int .i64 0, .string ⟨#[]⟩, .slice none 0 0, .slice none 0 0, .slice none 0 0] (ks.length * 8)) 43)) := fun W => by
    have hr := run_make (P := Try.prog) W 41 43 i0 _ Try.underlying41 hi hz0 .i64 .i64 (ks.length : Int) (ks.length : Int) (by omega) (Int.le_refl _) (by rw [hz2]; omega) (by omega)
    rw [Int.toNat_natCast, hz1] at hr
    exact hr
  have HI := Lib.hid hi
  clear hi hz0 hz1 hz2
  go_enter Try.func52, Try.ntmps52
  go_wp2_with fail
  have hgw0 : Gw w (w.alloc (.cells (madeCells #[.int .i64 0, .int .i64 0, .string ⟨#[]⟩, .int .i64 0, .string ⟨#[]⟩, .slice none 0 0, .slice none 0 0, .slice none 0 0] (ks.length * 8)) 43)) := (Gw.refl w).alloc _
  go_loopw [4] (fun i wr => ∃ us : List LM, i = .int .i64 us.length ∧ us.map LM.tm = (ks.take us.length).map LM.tm ∧ gFill 8 tmE LM.Ok LM.bl wr w.heap.size ks.length us ∧ Gw w wr) (fun i _ => ks.length - (intOf i).toNat)
  case atStart => exact ⟨[], rfl, rfl, gFill.start _ _ _ ⟨_, _, heap_alloc_new _ _, by rw [size_madeCells]⟩, hgw0⟩
  case round =>
    obtain ⟨us, rfl, hty, hfill, hg⟩ := hrel
    have HT := Lib.hid hty
    have HF := Lib.hid hfill
    have hj : us.length ≤ ks.length := hfill.1
    clear hty hfill hgw0 HI hmk
    by_cases hlt : us.length < ks.length
    · have hrow' := hrow.resolve_left (fun e => by subst e; simp at hlt)
      obtain ⟨b, o, rfl, hr⟩ := hrow'
      obtain ⟨c0, c1, c2, c3, c4, c5, c6, c7, hk⟩ := tmRow_get (hr.grow tmLen tmGr hg) us.length hlt
      clear hrow
      go_wp2_with fail
      refine (ih ks[us.length] (List.getElem_mem hlt) _ hk).mono ?_
      rintro e w1 ⟨u, rfl, hu, hnew, hg1⟩
      have HU := Lib.hid hu
      have HN := Lib.hid hnew
      clear hu hnew c0 c1 c2 c3 c4 c5 c6 c7
      have hF1 := HF.out.grow tmLen tmGr hg1
      obtain ⟨v0, x0⟩ := hF1.room hlt 0 (by omega)
      obtain ⟨v1, x1⟩ := hF1.room hlt 1 (by omega)
      obtain ⟨v2, x2⟩ := hF1.room hlt 2 (by omega)
      obtain ⟨v3, x3⟩ := hF1.room hlt 3 (by omega)
      obtain ⟨v4, x4⟩ := hF1.room hlt 4 (by omega)
      obtain ⟨v5, x5⟩ := hF1.room hlt 5 (by omega)
      obtain ⟨v6, x6⟩ := hF1.room hlt 6 (by omega)
      obtain ⟨v7, x7⟩ := hF1.room hlt 7 (by omega)
      rw [Nat.add_zero] at x0
      have y0 := hF1.free (us.length * 8)
      have y1 := hF1.free (us.length * 8 + 1)
      have y2 := hF1.free (us.length * 8 + 2)
      have y3 := hF1.free (us.length * 8 + 3)
      have y4 := hF1.free (us.length * 8 + 4)
      have y5 := hF1.free (us.length * 8 + 5)
      have y6 := hF1.free (us.length * 8 + 6)
      have y7 := hF1.free (us.length * 8 + 7)
      have HF1 := Lib.hid hF1
      clear hF1
      go_wp2_with fail
      go_roundw
      case rel =>
        have hl1 : us.length + 1 = (us ++ [u]).length := by simp
        refine ⟨us ++ [u], by rw [← hl1]; go_num, ?_, ?_, ?_⟩
        · rw [← hl1, List.take_succ_eq_append_getElem hlt, List.map_append, List.map_append, HT.out]; simp [HU.out]
        · have := HF1.out.put tmLen tmFr hlt HN.out (fun b hb => ((HF.out.2.2.2.2 b hb).2).lt) HF.out.lt
          exact this
        · exact ((((((((Below.setCell (hg.trans hg1) (by simp) _).setCell (by simp) _).setCell (by simp) _).setCell (by simp) _).setCell (by simp) _).setCell (by simp) _).setCell (by simp) _).setCell (by simp) _)
      case measure => simp [intOf]; omega
    · have hall : us.length = ks.length := by omega
      have HA := Lib.hid hall
      clear hall
      have hdone := HF.out.done (cap := ks.length) (B := w.heap.size) hj (by unfold maxLen; omega) (Nat.le_refl _)
      have HD := Lib.hid hdone
      clear hdone
      go_wp2_with fail
      go_ret
      exact ⟨us, _, ks.length, ret_sl HA.out.symm, by rw [HT.out, HA.out, List.take_length], HD.out, hg⟩

set_option maxRecDepth 100000 in
set_option maxHeartbeats 1000000 in
theorem toTerm_of (t : LM) (ih : ∀ (w : World), tmSl w t.a t.cap t.ks → Calls Try.prog 52 #[.slice t.a t.ks.length t.cap] w (ToMS w t.ks)) (hs : t.sz ≤ 1048576) (w : World) (h : t.Ok w) : Calls Try.prog 20 #[t.val] w (ToM w t) := by
  have hT := Lib.hid h.ty
  have hN := Lib.hid h.nms
  have hK := Lib.hid h.kids
  have hO := Lib.hid h
  have HZ := Lib.hid t.sz_eq
  clear h
  have z1 : t.t.sz ≤ 1048576 := by have := HZ.out; omega
  have z2 : t.ns.length ≤ 1048576 := by have := HZ.out; have := ssz_ge t.ns; omega
  go_enter Try.func20, Try.ntmps20
  go_wp2_with fail
  have BP0 : (((w.alloc (.cells #[.int .i64 t.k, .int .i64 t.m, .string t.n, .int .i64 t.t.k, .string t.t.n, .slice t.t.a t.t.ks.length t.t.cap, .slice t.na t.ns.length t.nc, .slice t.a t.ks.length t.cap] 38)).alloc (.cells #[.int .i64 0, .int .i64 0, .string ⟨#[]⟩, .int .i64 0, .string ⟨#[]⟩, .slice none 0 0, .slice none 0 0, .slice none 0 0] 43)).alloc (.cells #[.int .i64 t.k, .int .i64 t.m, .string t.n, .int .i64 0, .string ⟨#[]⟩, .slice none 0 0, .slice none 0 0, .slice none 0 0] 43)).heap[w.heap.size]? = some (.cells #[.int .i64 t.k, .int .i64 t.m, .string t.n, .int .i64 t.t.k, .string t.t.n, .slice t.t.a t.t.ks.length t.t.cap, .slice t.na t.ns.length t.nc, .slice t.a t.ks.length t.cap] 38 (0, 0)) := by
    rw [Below.heap_alloc _ _ _ (by simp; omega), Below.heap_alloc _ _ _ (by simp)]
    exact heap_alloc_new _ _
  have BO0 : (((w.alloc (.cells #[.int .i64 t.k, .int .i64 t.m, .string t.n, .int .i64 t.t.k, .string t.t.n, .slice t.t.a t.t.ks.length t.t.cap, .slice t.na t.ns.length t.nc, .slice t.a t.ks.length t.cap] 38)).alloc (.cells #[.int .i64 0, .int .i64 0, .string ⟨#[]⟩, .int .i64 0, .string ⟨#[]⟩, .slice none 0 0, .slice none 0 0, .slice none 0 0] 43)).alloc (.cells #[.int .i64 t.k, .int .i64 t.m, .string t.n, .int .i64 0, .string ⟨#[]⟩, .slice none 0 0, .slice none 0 0, .slice none 0 0] 43)).heap[w.heap.size + 1 + 1]? = some (.cells #[.int .i64 t.k, .int .i64 t.m, .string t.n, .int .i64 0, .string ⟨#[]⟩, .slice none 0 0, .slice none 0 0, .slice none 0 0] 43 (0, 0)) := heap_alloc_at _ _ _ _ rfl (by simp)
  have BR0 : (((w.alloc (.cells #[.int .i64 t.k, .int .i64 t.m, .string t.n, .int .i64 t.t.k, .string t.t.n, .slice t.t.a t.t.ks.length t.t.cap, .slice t.na t.ns.length t.nc, .slice t.a t.ks.length t.cap] 38)).alloc (.cells #[.int .i64 0, .int .i64 0, .string ⟨#[]⟩, .int .i64 0, .string ⟨#[]⟩, .slice none 0 0, .slice none 0 0, .slice none 0 0] 43)).alloc (.cells #[.int .i64 t.k, .int .i64 t.m, .string t.n, .int .i64 0, .string ⟨#[]⟩, .slice none 0 0, .slice none 0 0, .slice none 0 0] 43)).heap[w.heap.size + 1]? = some (.cells #[.int .i64 0, .int .i64 0, .string ⟨#[]⟩, .int .i64 0, .string ⟨#[]⟩, .slice none 0 0, .slice none 0 0, .slice none 0 0] 43 (0, 0)) := by
    rw [Below.heap_alloc _ _ _ (by simp)]
    exact heap_alloc_at _ _ _ _ rfl (by simp)
  have gW : Gw w (((w.alloc (.cells #[.int .i64 t.k, .int .i64 t.m, .string t.n, .int .i64 t.t.k, .string t.t.n, .slice t.t.a t.t.ks.length t.t.cap, .slice t.na t.ns.length t.nc, .slice t.a t.ks.length t.cap] 38)).alloc (.cells #[.int .i64 0, .int .i64 0, .string ⟨#[]⟩, .int .i64 0, .string ⟨#[]⟩, .slice none 0 0, .slice none 0 0, .slice none 0 0] 43)).alloc (.cells #[.int .i64 t.k, .int .i64 t.m, .string t.n, .int .i64 0, .string ⟨#[]⟩, .slice none 0 0, .slice none 0 0, .slice none 0 0] 43)) := (((Gw.refl w).alloc _).alloc _).alloc _
  have sz0 : (((w.alloc (.cells #[.int .i64 t.k, .int .i64 t.m, .string t.n, .int .i64 t.t.k, .string t.t.n, .slice t.t.a t.t.ks.length t.t.cap, .slice t.na t.ns.length t.nc, .slice t.a t.ks.length t.cap] 38)).alloc (.cells #[.int .i64 0, .int .i64 0, .string ⟨#[]⟩, .int .i64 0, .string ⟨#[]⟩, .slice none 0 0, .slice none 0 0, .slice none 0 0] 43)).alloc (.cells #[.int .i64 t.k, .int .i64 t.m, .string t.n, .int .i64 0, .string ⟨#[]⟩, .slice none 0 0, .slice none 0 0, .slice none 0 0] 43)).heap.size = w.heap.size + 3 := by simp
  generalize (((w.alloc (.cells #[.int .i64 t.k, .int .i64 t.m, .string t.n, .int .i64 t.t.k, .string t.t.n, .slice t.t.a t.t.ks.length t.t.cap, .slice t.na t.ns.length t.nc, .slice t.a t.ks.length t.cap] 38)).alloc (.cells #[.int .i64 0, .int .i64 0, .string ⟨#[]⟩, .int .i64 0, .string ⟨#[]⟩, .slice none 0 0, .slice none 0 0, .slice none 0 0] 43)).alloc (.cells #[.int .i64 t.k, .int .i64 t.m, .string t.n, .int .i64 0, .string ⟨#[]⟩, .slice none 0 0, .slice none 0 0, .slice none 0 0] 43)) = w0 at *
  refine (laws_toType t.t _ (hT.out.grow gW) z1).mono ?_
  rintro e w1 ⟨t', rfl, ht, nt, hg⟩
  have BP1 := (hg.block _ (by omega)).trans BP0
  have BO1 := (hg.block _ (by omega)).trans BO0
  have BR := Lib.hid ((hg.block _ (by omega)).trans BR0)
  have gW1 := gW.trans hg
  have z1' : w.heap.size + 3 ≤ w1.heap.size := by have := hg.size; omega
  rw [sz0] at nt
  have HT := Lib.hid ht
  have NT := Lib.hid nt
  have p6 : w1.cell? ⟨w.heap.size, 6, none⟩ = some (.slice t.na t.ns.length t.nc) := cell_of_row _ _ 6 _ _ _ BP1
  have q3 : w1.cell? ⟨w.heap.size + 1 + 1, 3, none⟩ = some (.int .i64 0) := cell_of_row _ _ 3 _ _ _ BO1
  have q4 : w1.cell? ⟨w.heap.size + 1 + 1, 4, none⟩ = some (.string ⟨#[]⟩) := cell_of_row _ _ 4 _ _ _ BO1
  have q5 : w1.cell? ⟨w.heap.size + 1 + 1, 5, none⟩ = some (.slice none 0 0) := cell_of_row _ _ 5 _ _ _ BO1
  have f1 : ∀ i, w1.frozen? ⟨w.heap.size + 1 + 1, i, none⟩ = false := fun i => by simp [World.frozen?, BO1]
  have f13 := f1 3
  have f14 := f1 4
  have f15 := f1 5
  have BP := Lib.hid BP1
  have BO := Lib.hid BO1
  clear ht nt BP0 BO0 BR0 gW hg BP1 BO1 f1 sz0
  go_wp2_with fail
  clear p6 q3 q4 q5 f13 f14 f15
  have BP1 : (((w1.setCell ⟨w.heap.size + 1 + 1, 3, none⟩ (.int .i64 t'.k)).setCell ⟨w.heap.size + 1 + 1, 4, none⟩ (.string t'.n)).setCell ⟨w.heap.size + 1 + 1, 5, none⟩ (.slice t'.a t'.ks.length t'.cap)).heap[w.heap.size]? = some (.cells #[.int .i64 t.k, .int .i64 t.m, .string t.n, .int .i64 t.t.k, .string t.t.n, .slice t.t.a t.t.ks.length t.t.cap, .slice t.na t.ns.length t.nc, .slice t.a t.ks.length t.cap] 38 (0, 0)) := by
    rw [Below.heap_setCell _ _ _ _ (by simp; omega), Below.heap_setCell _ _ _ _ (by simp; omega), Below.heap_setCell _ _ _ _ (by simp; omega)]
    exact BP.out
  have BO1 : (((w1.setCell ⟨w.heap.size + 1 + 1, 3, none⟩ (.int .i64 t'.k)).setCell ⟨w.heap.size + 1 + 1, 4, none⟩ (.string t'.n)).setCell ⟨w.heap.size + 1 + 1, 5, none⟩ (.slice t'.a t'.ks.length t'.cap)).heap[w.heap.size + 1 + 1]? = some (.cells #[.int .i64 t.k, .int .i64 t.m, .string t.n, .int .i64 t'.k, .string t'.n, .slice t'.a t'.ks.length t'.cap, .slice none 0 0, .slice none 0 0] 43 (0, 0)) := set_at (set_at (set_at BO.out))
  have BR1 : (((w1.setCell ⟨w.heap.size + 1 + 1, 3, none⟩ (.int .i64 t'.k)).setCell ⟨w.heap.size + 1 + 1, 4, none⟩ (.string t'.n)).setCell ⟨w.heap.size + 1 + 1, 5, none⟩ (.slice t'.a t'.ks.length t'.cap)).heap[w.heap.size + 1]? = some (.cells #[.int .i64 0, .int .i64 0, .string ⟨#[]⟩, .int .i64 0, .string ⟨#[]⟩, .slice none 0 0, .slice none 0 0, .slice none 0 0] 43 (0, 0)) := by
    rw [Below.heap_setCell _ _ _ _ (by simp), Below.heap_setCell _ _ _ _ (by simp), Below.heap_setCell _ _ _ _ (by simp)]
    exact BR.out
  have NT1 := NT.out.same (w' := ((w1.setCell ⟨w.heap.size + 1 + 1, 3, none⟩ (.int .i64 t'.k)).setCell ⟨w.heap.size + 1 + 1, 4, none⟩ (.string t'.n)).setCell ⟨w.heap.size + 1 + 1, 5, none⟩ (.slice t'.a t'.ks.length t'.cap)) (fun c hc => by
    have := (NT.out.2.2 c hc).1
    rw [Below.heap_setCell _ _ _ _ (by simp; omega), Below.heap_setCell _ _ _ _ (by simp; omega), Below.heap_setCell _ _ _ _ (by simp; omega)])
  replace gW1 : Gw w (((w1.setCell ⟨w.heap.size + 1 + 1, 3, none⟩ (.int .i64 t'.k)).setCell ⟨w.heap.size + 1 + 1, 4, none⟩ (.string t'.n)).setCell ⟨w.heap.size + 1 + 1, 5, none⟩ (.slice t'.a t'.ks.length t'.cap)) := ((Below.setCell gW1 (by simp; omega) _).setCell (by simp; omega) _).setCell (by simp; omega) _
  replace z1' : w.heap.size + 3 ≤ (((w1.setCell ⟨w.heap.size + 1 + 1, 3, none⟩ (.int .i64 t'.k)).setCell ⟨w.heap.size + 1 + 1, 4, none⟩ (.string t'.n)).setCell ⟨w.heap.size + 1 + 1, 5, none⟩ (.slice t'.a t'.ks.length t'.cap)).heap.size := by simpa [World.setCell] using z1'
  clear BP BO NT BR
  generalize (((w1.setCell ⟨w.heap.size + 1 + 1, 3, none⟩ (.int .i64 t'.k)).setCell ⟨w.heap.size + 1 + 1, 4, none⟩ (.string t'.n)).setCell ⟨w.heap.size + 1 + 1, 5, none⟩ (.slice t'.a t'.ks.length t'.cap)) = W1 at *
  refine (laws_toStrS t.ns _ t.na t.nc (hN.out.grow gW1) z2).mono ?_
  rintro e w2 ⟨an, cn, rfl, ns, hg⟩
  have hs12 := hg.size
  have BP := Lib.hid ((hg.block _ (by omega)).trans BP1)
  have BO := Lib.hid ((hg.block _ (by omega)).trans BO1)
  have BR := Lib.hid ((hg.block _ (by omega)).trans BR1)
  have NS := Lib.hid ns
  have NT := Lib.hid (NT1.grow hg)
  have hB1 : ∀ b ∈ t'.bl, b < W1.heap.size := fun b hb => (NT1.2.2 b hb).2.lt
  have gW2 := gW1.trans hg
  have p7 : w2.cell? ⟨w.heap.size, 7, none⟩ = some (.slice t.a t.ks.length t.cap) := cell_of_row _ _ 7 _ _ _ BP.out
  have q6 : w2.cell? ⟨w.heap.size + 1 + 1, 6, none⟩ = some (.slice none 0 0) := cell_of_row _ _ 6 _ _ _ BO.out
  have f6 : w2.frozen? ⟨w.heap.size + 1 + 1, 6, none⟩ = false := by simp [World.frozen?, BO.out]
  have HB1 := Lib.hid hB1
  clear BP1 BO1 BR1 NT1 gW1 hg ns hB1
  go_wp2_with fail
  clear p7 q6 f6
  have BO1 : (w2.setCell ⟨w.heap.size + 1 + 1, 6, none⟩ (.slice an t.ns.length cn)).heap[w.heap.size + 1 + 1]? = some (.cells #[.int .i64 t.k, .int .i64 t.m, .string t.n, .int .i64 t'.k, .string t'.n, .slice t'.a t'.ks.length t'.cap, .slice an t.ns.length cn, .slice none 0 0] 43 (0, 0)) := set_at BO.out
  have BR1 : (w2.setCell ⟨w.heap.size + 1 + 1, 6, none⟩ (.slice an t.ns.length cn)).heap[w.heap.size + 1]? = some (.cells #[.int .i64 0, .int .i64 0, .string ⟨#[]⟩, .int .i64 0, .string ⟨#[]⟩, .slice none 0 0, .slice none 0 0, .slice none 0 0] 43 (0, 0)) := by
    rw [Below.heap_setCell _ _ _ _ (by simp)]
    exact BR.out
  have NT1 := NT.out.same (w' := w2.setCell ⟨w.heap.size + 1 + 1, 6, none⟩ (.slice an t.ns.length cn)) (fun c hc => by
    have := (NT.out.2.2 c hc).1
    rw [Below.heap_setCell _ _ _ _ (by simp; omega)])
  have NS1 := NS.out.same (by decide) sLen sFr (w' := w2.setCell ⟨w.heap.size + 1 + 1, 6, none⟩ (.slice an t.ns.length cn)) (fun c hc => by
    have := (NS.out.2.2 c hc).1
    rw [Below.heap_setCell _ _ _ _ (by simp; omega)])
  replace gW2 : Gw w (w2.setCell ⟨w.heap.size + 1 + 1, 6, none⟩ (.slice an t.ns.length cn)) := Below.setCell gW2 (by simp; omega) _
  have z2' : W1.heap.size ≤ (w2.setCell ⟨w.heap.size + 1 + 1, 6, none⟩ (.slice an t.ns.length cn)).heap.size := by simpa [World.setCell] using hs12
  clear BP BO NT NS BR hs12
  generalize w2.setCell ⟨w.heap.size + 1 + 1, 6, none⟩ (.slice an t.ns.length cn) = W2 at *
  refine (ih _ (hK.out.grow tmLen tmGr gW2)).mono ?_
  rintro e w3 ⟨us, ak, ck, rfl, hus, nk, hg⟩
  have hs23 := hg.size
  have BO := Lib.hid ((hg.block _ (by omega)).trans BO1)
  have BR := Lib.hid ((hg.block _ (by omega)).trans BR1)
  have NK := Lib.hid nk
  have NT := Lib.hid (NT1.grow hg)
  have NS := Lib.hid (gNewSl.grow sLen sGr NS1 hg)
  have HU := Lib.hid hus
  have HB2 := Lib.hid (fun b (hb : b ∈ nbl sB an t.ns) => (NS1.2.2 b hb).2.lt)
  have gW3 := gW2.trans hg
  have q7 : w3.cell? ⟨w.heap.size + 1 + 1, 7, none⟩ = some (.slice none 0 0) := cell_of_row _ _ 7 _ _ _ BO.out
  have f7 : w3.frozen? ⟨w.heap.size + 1 + 1, 7, none⟩ = false := by simp [World.frozen?, BO.out]
  have q0 : w3.cell? ⟨w.heap.size + 1 + 1, 0, none⟩ = some (.int .i64 t.k) := cell_of_row _ _ 0 _ _ _ BO.out
  have q1 : w3.cell? ⟨w.heap.size + 1 + 1, 1, none⟩ = some (.int .i64 t.m) := cell_of_row _ _ 1 _ _ _ BO.out
  have q2 : w3.cell? ⟨w.heap.size + 1 + 1, 2, none⟩ = some (.string t.n) := cell_of_row _ _ 2 _ _ _ BO.out
  have q3 : w3.cell? ⟨w.heap.size + 1 + 1, 3, none⟩ = some (.int .i64 t'.k) := cell_of_row _ _ 3 _ _ _ BO.out
  have q4 : w3.cell? ⟨w.heap.size + 1 + 1, 4, none⟩ = some (.string t'.n) := cell_of_row _ _ 4 _ _ _ BO.out
  have q5 : w3.cell? ⟨w.heap.size + 1 + 1, 5, none⟩ = some (.slice t'.a t'.ks.length t'.cap) := cell_of_row _ _ 5 _ _ _ BO.out
  have q6 : w3.cell? ⟨w.heap.size + 1 + 1, 6, none⟩ = some (.slice an t.ns.length cn) := cell_of_row _ _ 6 _ _ _ BO.out
  have r0 : w3.cell? ⟨w.heap.size + 1, 0, none⟩ = some (.int .i64 0) := cell_of_row _ _ 0 _ _ _ BR.out
  have x0 : w3.frozen? ⟨w.heap.size + 1, 0, none⟩ = false := by simp [World.frozen?, BR.out]
  have r1 : w3.cell? ⟨w.heap.size + 1, 1, none⟩ = some (.int .i64 0) := cell_of_row _ _ 1 _ _ _ BR.out
  have x1 : w3.frozen? ⟨w.heap.size + 1, 1, none⟩ = false := by simp [World.frozen?, BR.out]
  have r2 : w3.cell? ⟨w.heap.size + 1, 2, none⟩ = some (.string ⟨#[]⟩) := cell_of_row _ _ 2 _ _ _ BR.out
  have x2 : w3.frozen? ⟨w.heap.size + 1, 2, none⟩ = false := by simp [World.frozen?, BR.out]
  have r3 : w3.cell? ⟨w.heap.size + 1, 3, none⟩ = some (.int .i64 0) := cell_of_row _ _ 3 _ _ _ BR.out
  have x3 : w3.frozen? ⟨w.heap.size + 1, 3, none⟩ = false := by simp [World.frozen?, BR.out]
  have r4 : w3.cell? ⟨w.heap.size + 1, 4, none⟩ = some (.string ⟨#[]⟩) := cell_of_row _ _ 4 _ _ _ BR.out
  have x4 : w3.frozen? ⟨w.heap.size + 1, 4, none⟩ = false := by simp [World.frozen?, BR.out]
  have r5 : w3.cell? ⟨w.heap.size + 1, 5, none⟩ = some (.slice none 0 0) := cell_of_row _ _ 5 _ _ _ BR.out
  have x5 : w3.frozen? ⟨w.heap.size + 1, 5, none⟩ = false := by simp [World.frozen?, BR.out]
  have r6 : w3.cell? ⟨w.heap.size + 1, 6, none⟩ = some (.slice none 0 0) := cell_of_row _ _ 6 _ _ _ BR.out
  have x6 : w3.frozen? ⟨w.heap.size + 1, 6, none⟩ = false := by simp [World.frozen?, BR.out]
  have r7 : w3.cell? ⟨w.heap.size + 1, 7, none⟩ = some (.slice none 0 0) := cell_of_row _ _ 7 _ _ _ BR.out
  have x7 : w3.frozen? ⟨w.heap.size + 1, 7, none⟩ = false := by simp [World.frozen?, BR.out]
  clear BO1 BR1 NT1 NS1 gW2 hg nk hus
  go_wp2_with fail
  have BR3 : (w3.setCell ⟨w.heap.size + 1 + 1, 7, none⟩ (.slice ak us.length ck)).heap[w.heap.size + 1]? = some (.cells #[.int .i64 0, .int .i64 0, .string ⟨#[]⟩, .int .i64 0, .string ⟨#[]⟩, .slice none 0 0, .slice none 0 0, .slice none 0 0] 43 (0, 0)) := by
    rw [Below.heap_setCell _ _ _ _ (by simp)]
    exact BR.out
  have BRF : (((((((((w3.setCell ⟨w.heap.size + 1 + 1, 7, none⟩ (.slice ak us.length ck)).setCell ⟨w.heap.size + 1, 0, none⟩ (.int .i64 t.k)).setCell ⟨w.heap.size + 1, 1, none⟩ (.int .i64 t.m)).setCell ⟨w.heap.size + 1, 2, none⟩ (.string t.n)).setCell ⟨w.heap.size + 1, 3, none⟩ (.int .i64 t'.k)).setCell ⟨w.heap.size + 1, 4, none⟩ (.string t'.n)).setCell ⟨w.heap.size + 1, 5, none⟩ (.slice t'.a t'.ks.length t'.cap)).setCell ⟨w.heap.size + 1, 6, none⟩ (.slice an t.ns.length cn)).setCell ⟨w.heap.size + 1, 7, none⟩ (.slice ak us.length ck)).heap[w.heap.size + 1]? = some (.cells #[.int .i64 t.k, .int .i64 t.m, .string t.n, .int .i64 t'.k, .string t'.n, .slice t'.a t'.ks.length t'.cap, .slice an t.ns.length cn, .slice ak us.length ck] 43 (0, 0)) := (set_at (set_at (set_at (set_at (set_at (set_at (set_at (set_at BR3))))))))
  have gWF : Gw w (((((((((w3.setCell ⟨w.heap.size + 1 + 1, 7, none⟩ (.slice ak us.length ck)).setCell ⟨w.heap.size + 1, 0, none⟩ (.int .i64 t.k)).setCell ⟨w.heap.size + 1, 1, none⟩ (.int .i64 t.m)).setCell ⟨w.heap.size + 1, 2, none⟩ (.string t.n)).setCell ⟨w.heap.size + 1, 3, none⟩ (.int .i64 t'.k)).setCell ⟨w.heap.size + 1, 4, none⟩ (.string t'.n)).setCell ⟨w.heap.size + 1, 5, none⟩ (.slice t'.a t'.ks.length t'.cap)).setCell ⟨w.heap.size + 1, 6, none⟩ (.slice an t.ns.length cn)).setCell ⟨w.heap.size + 1, 7, none⟩ (.slice ak us.length ck)) := (((((((((Below.setCell gW3 (by simp; omega) _).setCell (by simp) _).setCell (by simp) _).setCell (by simp) _).setCell (by simp) _).setCell (by simp) _).setCell (by simp) _).setCell (by simp) _).setCell (by simp) _)
  have far : ∀ c, w.heap.size + 3 ≤ c → (((((((((w3.setCell ⟨w.heap.size + 1 + 1, 7, none⟩ (.slice ak us.length ck)).setCell ⟨w.heap.size + 1, 0, none⟩ (.int .i64 t.k)).setCell ⟨w.heap.size + 1, 1, none⟩ (.int .i64 t.m)).setCell ⟨w.heap.size + 1, 2, none⟩ (.string t.n)).setCell ⟨w.heap.size + 1, 3, none⟩ (.int .i64 t'.k)).setCell ⟨w.heap.size + 1, 4, none⟩ (.string t'.n)).setCell ⟨w.heap.size + 1, 5, none⟩ (.slice t'.a t'.ks.length t'.cap)).setCell ⟨w.heap.size + 1, 6, none⟩ (.slice an t.ns.length cn)).setCell ⟨w.heap.size + 1, 7, none⟩ (.slice ak us.length ck)).heap[c]? = w3.heap[c]? := fun c hc => by
    rw [Below.heap_setCell _ _ _ _ (by simp; omega), Below.heap_setCell _ _ _ _ (by simp; omega), Below.heap_setCell _ _ _ _ (by simp; omega), Below.heap_setCell _ _ _ _ (by simp; omega), Below.heap_setCell _ _ _ _ (by simp; omega), Below.heap_setCell _ _ _ _ (by simp; omega), Below.heap_setCell _ _ _ _ (by simp; omega), Below.heap_setCell _ _ _ _ (by simp; omega), Below.heap_setCell _ _ _ _ (by simp; omega)]
  clear q0 q1 q2 q3 q4 q5 q6 q7 f7 r0 r1 r2 r3 r4 r5 r6 r7 x0 x1 x2 x3 x4 x5 x6 x7 BR3 gW3
  generalize (((((((((w3.setCell ⟨w.heap.size + 1 + 1, 7, none⟩ (.slice ak us.length ck)).setCell ⟨w.heap.size + 1, 0, none⟩ (.int .i64 t.k)).setCell ⟨w.heap.size + 1, 1, none⟩ (.int .i64 t.m)).setCell ⟨w.heap.size + 1, 2, none⟩ (.string t.n)).setCell ⟨w.heap.size + 1, 3, none⟩ (.int .i64 t'.k)).setCell ⟨w.heap.size + 1, 4, none⟩ (.string t'.n)).setCell ⟨w.heap.size + 1, 5, none⟩ (.slice t'.a t'.ks.length t'.cap)).setCell ⟨w.heap.size + 1, 6, none⟩ (.slice an t.ns.length cn)).setCell ⟨w.heap.size + 1, 7, none⟩ (.slice ak us.length ck)) = W3 at *
  have e0 : W3.cell? ⟨w.heap.size + 1, 0, none⟩ = some (.int .i64 t.k) := cell_of_row _ _ 0 _ _ _ BRF
  have e1 : W3.cell? ⟨w.heap.size + 1, 1, none⟩ = some (.int .i64 t.m) := cell_of_row _ _ 1 _ _ _ BRF
  have e2 : W3.cell? ⟨w.heap.size + 1, 2, none⟩ = some (.string t.n) := cell_of_row _ _ 2 _ _ _ BRF
  have e3 : W3.cell? ⟨w.heap.size + 1, 3, none⟩ = some (.int .i64 t'.k) := cell_of_row _ _ 3 _ _ _ BRF
  have e4 : W3.cell? ⟨w.heap.size + 1, 4, none⟩ = some (.string t'.n) := cell_of_row _ _ 4 _ _ _ BRF
  have e5 : W3.cell? ⟨w.heap.size + 1, 5, none⟩ = some (.slice t'.a t'.ks.length t'.cap) := cell_of_row _ _ 5 _ _ _ BRF
  have e6 : W3.cell? ⟨w.heap.size + 1, 6, none⟩ = some (.slice an t.ns.length cn) := cell_of_row _ _ 6 _ _ _ BRF
  have e7 : W3.cell? ⟨w.heap.size + 1, 7, none⟩ = some (.slice ak us.length ck) := cell_of_row _ _ 7 _ _ _ BRF
  obtain ⟨⟨hk, hm, hn, _⟩, _⟩ := (LM.ok_iff _).1 hO.out
  refine bodyPost_ret (v := (LM.mk t.k t.m t.n t' an cn t.ns ak ck us).val) (by simp [results, Try.results20, go_sem, e0, e1, e2, e3, e4, e5, e6, e7]; exact ⟨rfl, rfl, rfl, rfl, rfl, ⟨rfl, rfl, rfl⟩, ⟨rfl, rfl, rfl⟩, rfl, rfl, rfl⟩) rfl ⟨.mk t.k t.m t.n t' an cn t.ns ak ck us, rfl, ?_, ?_, gWF⟩
  · rw [LM.tm_eq, LM.tm_eq t]
    show Tm.mk t.k t.m t.n t'.ty t.ns (us.map LM.tm) = _
    rw [HT.out, HU.out]
  · exact LM.new_mk hk hm hn ((NT.out.same fun c hc => far c (NT.out.2.2 c hc).1).mono (by omega)) (NS.out.same (by decide) sLen sFr fun c hc => far c (by have := (NS.out.2.2 c hc).1; omega))
      (NK.out.same (by decide) tmLen tmFr fun c hc => far c (by have := (NK.out.2.2 c hc).1; omega)) HB1.out HB2.out (by omega) (by omega)

theorem laws_toTerm (t : LM) : ∀ (w : World), t.Ok w → t.sz ≤ 1048576 → Calls Try.prog 20 #[t.val] w (ToM w t) := by
  refine LM.ind (P := fun t => ∀ (w : World), t.Ok w → t.sz ≤ 1048576 → Calls Try.prog 20 #[t.val] w (ToM w t)) (fun k m n t na nc ns a c ks ih w h hs => ?_) t
  have hz : sm LM.sz ks ≤ 1048576 := by have := LM.sz_eq (.mk k m n t na nc ns a c ks); rw [this] at hs; exact Nat.le_trans (Nat.le_add_left _ _) hs
  have h1 := sm_ge LM.sz ks
  exact toTerm_of (.mk k m n t na nc ns a c ks) (fun w1 h1 => toTermS_of ks (fun u hu w2 h2 => ih u hu w2 h2 (by have := sm_mem LM.sz hu; omega)) w1 a c h1 (by omega)) hs w h

end Go.Proofs.Ytbbldkhlclfmkaa.Con
