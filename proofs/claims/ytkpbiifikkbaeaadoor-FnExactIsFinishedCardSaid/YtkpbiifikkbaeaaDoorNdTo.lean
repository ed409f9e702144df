/-
  The laws' own toClosure, toFrame, toThunk, toNeed and their rows: copies in blocks of their own. Condition: the state was counted.
-/
import Derived.Test.YtkpbiifikkbaeaaDoorNd
namespace Go.Proofs.YtkpbiifikkbaeaaDoor.Con
open Go.RowKit Go.ChangeShapes Go.WideShapes Go.ChangeAt Go.Deep
set_option linter.unusedVariables false

theorem LCl.new_mk {w : World} {B : Nat} {B0 B1 : Nat} {t : LK} {ea : Option Addr} {ec : Nat} {e : List Int} (n0 : gNew LK.Ok LK.bl B0 w t) (n1 : gNewSl 1 nE nOk nB B1 w ea ec e) (m0 : ∀ b ∈ t.bl, b < B1) (l0 : B ≤ B0) (l1 : B0 ≤ B1) : LCl.New B w ⟨t, ea, ec, e⟩ := by
  refine ⟨⟨n0.1, n1.1⟩, List.nodup_append.2 ⟨n0.2.1, n1.2.1, fun x hx y hy e => ?_⟩, fun b hb => ?_⟩
  · subst e
    have := m0 x hx
    have := (n1.2.2 x hy).1
    omega
  · rcases List.mem_append.1 hb with hb | hb
    · exact ⟨Nat.le_trans l0 (n0.2.2 b hb).1, (n0.2.2 b hb).2⟩
    · exact ⟨Nat.le_trans (Nat.le_trans l0 l1) (n1.2.2 b hb).1, (n1.2.2 b hb).2⟩

def ToLCl (w : World) (t : LCl) (e : Ending) (w' : World) : Prop := ∃ u : LCl, e = .returned u.val ∧ u.pu = t.pu ∧ u.New w.heap.size w' ∧ Gw w w'
def ToLClS (w : World) (ks : List LCl) (e : Ending) (w' : World) : Prop := ∃ (us : List LCl) (a : Option Addr) (cap : Nat), e = .returned (.slice a us.length cap) ∧ us.map LCl.pu = ks.map LCl.pu ∧ clNew w.heap.size w' a cap us ∧ Gw w w'
set_option maxRecDepth 100000 in
set_option maxHeartbeats 2000000 in
set_option linter.unusedSimpArgs false in
theorem laws_toClosure (t : LCl) (w : World) (h : clOk w t) (hs : t.sz ≤ 1048576) : Calls Tryd.prog 31 #[t.val] w (ToLCl w t) := by
  have o_t := Lib.hid (h.1)
  have o_e := Lib.hid (h.2)
  have z0 := Lib.hid (show t.t.sz ≤ 1048576 by unfold LCl.sz at hs; omega)
  have z1 := Lib.hid (show t.e.length ≤ 1048576 by unfold LCl.sz at hs; omega)
  clear h hs
  go_enter Tryd.func31, Tryd.ntmps31
  go_wp2_with fail
  have BP0 : (((w.alloc (.cells #[.int .i64 t.t.k, .int .i64 t.t.v, .slice t.t.da t.t.ds.length t.t.dc, .slice t.t.a t.t.ks.length t.t.cap, .slice t.ea t.e.length t.ec] 29)).alloc (.cells #[.int .i64 0, .int .i64 0, .slice none 0 0, .slice none 0 0, .slice none 0 0] 44)).alloc (.cells #[.int .i64 0, .int .i64 0, .slice none 0 0, .slice none 0 0, .slice none 0 0] 44)).heap[w.heap.size]? = some (.cells #[.int .i64 t.t.k, .int .i64 t.t.v, .slice t.t.da t.t.ds.length t.t.dc, .slice t.t.a t.t.ks.length t.t.cap, .slice t.ea t.e.length t.ec] 29 (0, 0)) := by
    rw [Below.heap_alloc _ _ _ (by simp <;> omega), Below.heap_alloc _ _ _ (by simp)]
    exact heap_alloc_new _ _
  have BR0 : (((w.alloc (.cells #[.int .i64 t.t.k, .int .i64 t.t.v, .slice t.t.da t.t.ds.length t.t.dc, .slice t.t.a t.t.ks.length t.t.cap, .slice t.ea t.e.length t.ec] 29)).alloc (.cells #[.int .i64 0, .int .i64 0, .slice none 0 0, .slice none 0 0, .slice none 0 0] 44)).alloc (.cells #[.int .i64 0, .int .i64 0, .slice none 0 0, .slice none 0 0, .slice none 0 0] 44)).heap[w.heap.size + 1]? = some (.cells #[.int .i64 0, .int .i64 0, .slice none 0 0, .slice none 0 0, .slice none 0 0] 44 (0, 0)) := by
    rw [Below.heap_alloc _ _ _ (by simp)]
    exact kheap_at _ _ _ _ rfl (by simp)
  have BO0 : (((w.alloc (.cells #[.int .i64 t.t.k, .int .i64 t.t.v, .slice t.t.da t.t.ds.length t.t.dc, .slice t.t.a t.t.ks.length t.t.cap, .slice t.ea t.e.length t.ec] 29)).alloc (.cells #[.int .i64 0, .int .i64 0, .slice none 0 0, .slice none 0 0, .slice none 0 0] 44)).alloc (.cells #[.int .i64 0, .int .i64 0, .slice none 0 0, .slice none 0 0, .slice none 0 0] 44)).heap[w.heap.size + 1 + 1]? = some (.cells #[.int .i64 0, .int .i64 0, .slice none 0 0, .slice none 0 0, .slice none 0 0] 44 (0, 0)) := kheap_at _ _ _ _ rfl (by simp)
  have gW : Gw w (((w.alloc (.cells #[.int .i64 t.t.k, .int .i64 t.t.v, .slice t.t.da t.t.ds.length t.t.dc, .slice t.t.a t.t.ks.length t.t.cap, .slice t.ea t.e.length t.ec] 29)).alloc (.cells #[.int .i64 0, .int .i64 0, .slice none 0 0, .slice none 0 0, .slice none 0 0] 44)).alloc (.cells #[.int .i64 0, .int .i64 0, .slice none 0 0, .slice none 0 0, .slice none 0 0] 44)) := (((Gw.refl w).alloc _).alloc _).alloc _
  have sz0 : w.heap.size + 3 ≤ (((w.alloc (.cells #[.int .i64 t.t.k, .int .i64 t.t.v, .slice t.t.da t.t.ds.length t.t.dc, .slice t.t.a t.t.ks.length t.t.cap, .slice t.ea t.e.length t.ec] 29)).alloc (.cells #[.int .i64 0, .int .i64 0, .slice none 0 0, .slice none 0 0, .slice none 0 0] 44)).alloc (.cells #[.int .i64 0, .int .i64 0, .slice none 0 0, .slice none 0 0, .slice none 0 0] 44)).heap.size := by simp
  generalize (((w.alloc (.cells #[.int .i64 t.t.k, .int .i64 t.t.v, .slice t.t.da t.t.ds.length t.t.dc, .slice t.t.a t.t.ks.length t.t.cap, .slice t.ea t.e.length t.ec] 29)).alloc (.cells #[.int .i64 0, .int .i64 0, .slice none 0 0, .slice none 0 0, .slice none 0 0] 44)).alloc (.cells #[.int .i64 0, .int .i64 0, .slice none 0 0, .slice none 0 0, .slice none 0 0] 44)) = V0 at *
  refine (laws_toCore t.t _ (coGr _ _ _ o_t.out gW) z0.out).mono ?_
  rintro e w1 ⟨u0, rfl, hu, nu, hg⟩
  have HU0 := Lib.hid hu
  have BP1 := (hg.block _ (by omega)).trans BP0
  have BO1 := (hg.block _ (by omega)).trans BO0
  have BR1 := (hg.block _ (by omega)).trans BR0
  have gV1 := gW.trans hg
  have S0 := Lib.hid (show w.heap.size + 3 ≤ V0.heap.size ∧ V0.heap.size ≤ w1.heap.size from ⟨sz0, hg.size⟩)
  have NU0 := Lib.hid nu
  have HB0 := Lib.hid (fun b (hb : b ∈ u0.bl) => (nu.2.2 b hb).2.lt)
  have p4 : w1.cell? ⟨w.heap.size, 4, none⟩ = some (.slice t.ea t.e.length t.ec) := cell_of_row _ _ 4 _ _ _ BP1
  have q0 : w1.cell? ⟨w.heap.size + 1 + 1, 0, none⟩ = some (.int .i64 0) := cell_of_row _ _ 0 _ _ _ BO1
  have q1 : w1.cell? ⟨w.heap.size + 1 + 1, 1, none⟩ = some (.int .i64 0) := cell_of_row _ _ 1 _ _ _ BO1
  have q2 : w1.cell? ⟨w.heap.size + 1 + 1, 2, none⟩ = some (.slice none 0 0) := cell_of_row _ _ 2 _ _ _ BO1
  have q3 : w1.cell? ⟨w.heap.size + 1 + 1, 3, none⟩ = some (.slice none 0 0) := cell_of_row _ _ 3 _ _ _ BO1
  have x0 : w1.frozen? ⟨w.heap.size + 1 + 1, 0, none⟩ = false := by simp [World.frozen?, BO1]
  have x1 : w1.frozen? ⟨w.heap.size + 1 + 1, 1, none⟩ = false := by simp [World.frozen?, BO1]
  have x2 : w1.frozen? ⟨w.heap.size + 1 + 1, 2, none⟩ = false := by simp [World.frozen?, BO1]
  have x3 : w1.frozen? ⟨w.heap.size + 1 + 1, 3, none⟩ = false := by simp [World.frozen?, BO1]
  have BP := Lib.hid BP1
  have BO := Lib.hid BO1
  have BR := Lib.hid BR1
  have GV := Lib.hid gV1
  clear nu hg sz0 gW BP0 BO0 BR0 BP1 BO1 BR1 gV1 hu
  go_wp2_with fail
  clear p4 q0 q1 q2 q3 x0 x1 x2 x3
  have BP1 : ((((w1.setCell ⟨w.heap.size + 1 + 1, 0, none⟩ (.int .i64 u0.k)).setCell ⟨w.heap.size + 1 + 1, 1, none⟩ (.int .i64 u0.v)).setCell ⟨w.heap.size + 1 + 1, 2, none⟩ (.slice u0.da u0.ds.length u0.dc)).setCell ⟨w.heap.size + 1 + 1, 3, none⟩ (.slice u0.a u0.ks.length u0.cap)).heap[w.heap.size]? = some (.cells #[.int .i64 t.t.k, .int .i64 t.t.v, .slice t.t.da t.t.ds.length t.t.dc, .slice t.t.a t.t.ks.length t.t.cap, .slice t.ea t.e.length t.ec] 29 (0, 0)) := by
    rw [Below.heap_setCell _ _ _ _ (by simp <;> omega), Below.heap_setCell _ _ _ _ (by simp <;> omega), Below.heap_setCell _ _ _ _ (by simp <;> omega), Below.heap_setCell _ _ _ _ (by simp <;> omega)]
    exact BP.out
  have BR1 : ((((w1.setCell ⟨w.heap.size + 1 + 1, 0, none⟩ (.int .i64 u0.k)).setCell ⟨w.heap.size + 1 + 1, 1, none⟩ (.int .i64 u0.v)).setCell ⟨w.heap.size + 1 + 1, 2, none⟩ (.slice u0.da u0.ds.length u0.dc)).setCell ⟨w.heap.size + 1 + 1, 3, none⟩ (.slice u0.a u0.ks.length u0.cap)).heap[w.heap.size + 1]? = some (.cells #[.int .i64 0, .int .i64 0, .slice none 0 0, .slice none 0 0, .slice none 0 0] 44 (0, 0)) := by
    rw [Below.heap_setCell _ _ _ _ (by simp <;> omega), Below.heap_setCell _ _ _ _ (by simp <;> omega), Below.heap_setCell _ _ _ _ (by simp <;> omega), Below.heap_setCell _ _ _ _ (by simp <;> omega)]
    exact BR.out
  have BO1 : ((((w1.setCell ⟨w.heap.size + 1 + 1, 0, none⟩ (.int .i64 u0.k)).setCell ⟨w.heap.size + 1 + 1, 1, none⟩ (.int .i64 u0.v)).setCell ⟨w.heap.size + 1 + 1, 2, none⟩ (.slice u0.da u0.ds.length u0.dc)).setCell ⟨w.heap.size + 1 + 1, 3, none⟩ (.slice u0.a u0.ks.length u0.cap)).heap[w.heap.size + 1 + 1]? = some (.cells #[.int .i64 u0.k, .int .i64 u0.v, .slice u0.da u0.ds.length u0.dc, .slice u0.a u0.ks.length u0.cap, .slice none 0 0] 44 (0, 0)) := (by
    have hq := (kset_at (i := 3) (v := .slice u0.a u0.ks.length u0.cap) (kset_at (i := 2) (v := .slice u0.da u0.ds.length u0.dc) (kset_at (i := 1) (v := .int .i64 u0.v) (kset_at (i := 0) (v := .int .i64 u0.k) BO.out))))
    simp only [List.setIfInBounds_toArray, List.set_cons_succ, List.set_cons_zero] at hq
    exact hq)
  have gW : Gw w ((((w1.setCell ⟨w.heap.size + 1 + 1, 0, none⟩ (.int .i64 u0.k)).setCell ⟨w.heap.size + 1 + 1, 1, none⟩ (.int .i64 u0.v)).setCell ⟨w.heap.size + 1 + 1, 2, none⟩ (.slice u0.da u0.ds.length u0.dc)).setCell ⟨w.heap.size + 1 + 1, 3, none⟩ (.slice u0.a u0.ks.length u0.cap)) := (Below.setCell (Below.setCell (Below.setCell (Below.setCell GV.out (by simp <;> omega) _) (by simp <;> omega) _) (by simp <;> omega) _) (by simp <;> omega) _)
  have sz0 : w.heap.size + 3 ≤ ((((w1.setCell ⟨w.heap.size + 1 + 1, 0, none⟩ (.int .i64 u0.k)).setCell ⟨w.heap.size + 1 + 1, 1, none⟩ (.int .i64 u0.v)).setCell ⟨w.heap.size + 1 + 1, 2, none⟩ (.slice u0.da u0.ds.length u0.dc)).setCell ⟨w.heap.size + 1 + 1, 3, none⟩ (.slice u0.a u0.ks.length u0.cap)).heap.size := by have := S0.out; simp [World.setCell]; omega
  have szE := Lib.hid (show ((((w1.setCell ⟨w.heap.size + 1 + 1, 0, none⟩ (.int .i64 u0.k)).setCell ⟨w.heap.size + 1 + 1, 1, none⟩ (.int .i64 u0.v)).setCell ⟨w.heap.size + 1 + 1, 2, none⟩ (.slice u0.da u0.ds.length u0.dc)).setCell ⟨w.heap.size + 1 + 1, 3, none⟩ (.slice u0.a u0.ks.length u0.cap)).heap.size = w1.heap.size by simp [World.setCell])
  have NN0 := gNew.same coFr NU0.out (w' := ((((w1.setCell ⟨w.heap.size + 1 + 1, 0, none⟩ (.int .i64 u0.k)).setCell ⟨w.heap.size + 1 + 1, 1, none⟩ (.int .i64 u0.v)).setCell ⟨w.heap.size + 1 + 1, 2, none⟩ (.slice u0.da u0.ds.length u0.dc)).setCell ⟨w.heap.size + 1 + 1, 3, none⟩ (.slice u0.a u0.ks.length u0.cap))) (fun c hc => by
    have := (NU0.out.2.2 c hc).1
    have := S0.out
    rw [Below.heap_setCell _ _ _ _ (by simp <;> omega), Below.heap_setCell _ _ _ _ (by simp <;> omega), Below.heap_setCell _ _ _ _ (by simp <;> omega), Below.heap_setCell _ _ _ _ (by simp <;> omega)])
  clear BP BO BR GV NU0
  generalize ((((w1.setCell ⟨w.heap.size + 1 + 1, 0, none⟩ (.int .i64 u0.k)).setCell ⟨w.heap.size + 1 + 1, 1, none⟩ (.int .i64 u0.v)).setCell ⟨w.heap.size + 1 + 1, 2, none⟩ (.slice u0.da u0.ds.length u0.dc)).setCell ⟨w.heap.size + 1 + 1, 3, none⟩ (.slice u0.a u0.ks.length u0.cap)) = V1 at *
  have E1 := szE
  clear szE
  refine (laws_toNumS t.e _ t.ea t.ec (gSl.grow nLen nGr o_e.out gW) (z1.out)).mono ?_
  rintro e w2 ⟨a1, c1, rfl, nu, hg⟩
  have BP2 := (hg.block _ (by omega)).trans BP1
  have BO2 := (hg.block _ (by omega)).trans BO1
  have BR2 := (hg.block _ (by omega)).trans BR1
  have gV2 := gW.trans hg
  have S1 := Lib.hid (show w.heap.size + 3 ≤ V1.heap.size ∧ V1.heap.size ≤ w2.heap.size from ⟨sz0, hg.size⟩)
  have NU1 := Lib.hid nu
  have HB1 := Lib.hid (fun b (hb : b ∈ nbl nB a1 t.e) => (nu.2.2 b hb).2.lt)
  have NU0 := Lib.hid (gNew.grow coGr NN0 hg)
  have q0 : w2.cell? ⟨w.heap.size + 1 + 1, 0, none⟩ = some (.int .i64 u0.k) := cell_of_row _ _ 0 _ _ _ BO2
  have q1 : w2.cell? ⟨w.heap.size + 1 + 1, 1, none⟩ = some (.int .i64 u0.v) := cell_of_row _ _ 1 _ _ _ BO2
  have q2 : w2.cell? ⟨w.heap.size + 1 + 1, 2, none⟩ = some (.slice u0.da u0.ds.length u0.dc) := cell_of_row _ _ 2 _ _ _ BO2
  have q3 : w2.cell? ⟨w.heap.size + 1 + 1, 3, none⟩ = some (.slice u0.a u0.ks.length u0.cap) := cell_of_row _ _ 3 _ _ _ BO2
  have q4 : w2.cell? ⟨w.heap.size + 1 + 1, 4, none⟩ = some (.slice none 0 0) := cell_of_row _ _ 4 _ _ _ BO2
  have x4 : w2.frozen? ⟨w.heap.size + 1 + 1, 4, none⟩ = false := by simp [World.frozen?, BO2]
  have BP := Lib.hid BP2
  have BO := Lib.hid BO2
  have BR := Lib.hid BR2
  have GV := Lib.hid gV2
  clear nu hg sz0 gW BP1 BO1 BR1 BP2 BO2 BR2 gV2 NN0
  go_upto_region 4 with (fail)
  clear  q0 q1 q2 q3 q4 x4
  have BP2 : (w2.setCell ⟨w.heap.size + 1 + 1, 4, none⟩ (.slice a1 t.e.length c1)).heap[w.heap.size]? = some (.cells #[.int .i64 t.t.k, .int .i64 t.t.v, .slice t.t.da t.t.ds.length t.t.dc, .slice t.t.a t.t.ks.length t.t.cap, .slice t.ea t.e.length t.ec] 29 (0, 0)) := by
    rw [Below.heap_setCell _ _ _ _ (by simp <;> omega)]
    exact BP.out
  have BR2 : (w2.setCell ⟨w.heap.size + 1 + 1, 4, none⟩ (.slice a1 t.e.length c1)).heap[w.heap.size + 1]? = some (.cells #[.int .i64 0, .int .i64 0, .slice none 0 0, .slice none 0 0, .slice none 0 0] 44 (0, 0)) := by
    rw [Below.heap_setCell _ _ _ _ (by simp <;> omega)]
    exact BR.out
  have BO2 : (w2.setCell ⟨w.heap.size + 1 + 1, 4, none⟩ (.slice a1 t.e.length c1)).heap[w.heap.size + 1 + 1]? = some (.cells #[.int .i64 u0.k, .int .i64 u0.v, .slice u0.da u0.ds.length u0.dc, .slice u0.a u0.ks.length u0.cap, .slice a1 t.e.length c1] 44 (0, 0)) := (by
    have hq := (kset_at (i := 4) (v := .slice a1 t.e.length c1) BO.out)
    simp only [List.setIfInBounds_toArray, List.set_cons_succ, List.set_cons_zero] at hq
    exact hq)
  have gW : Gw w (w2.setCell ⟨w.heap.size + 1 + 1, 4, none⟩ (.slice a1 t.e.length c1)) := (Below.setCell GV.out (by simp <;> omega) _)
  have sz0 : w.heap.size + 3 ≤ (w2.setCell ⟨w.heap.size + 1 + 1, 4, none⟩ (.slice a1 t.e.length c1)).heap.size := by have := S1.out; simp [World.setCell]; omega
  have szE := Lib.hid (show (w2.setCell ⟨w.heap.size + 1 + 1, 4, none⟩ (.slice a1 t.e.length c1)).heap.size = w2.heap.size by simp [World.setCell])
  have NN0 := gNew.same coFr NU0.out (w' := (w2.setCell ⟨w.heap.size + 1 + 1, 4, none⟩ (.slice a1 t.e.length c1))) (fun c hc => by
    have := (NU0.out.2.2 c hc).1
    have := S0.out
    rw [Below.heap_setCell _ _ _ _ (by simp <;> omega)])
  have NN1 := gNewSl.same (by decide) nLen nFr NU1.out (w' := (w2.setCell ⟨w.heap.size + 1 + 1, 4, none⟩ (.slice a1 t.e.length c1))) (fun c hc => by
    have := (NU1.out.2.2 c hc).1
    have := S1.out
    rw [Below.heap_setCell _ _ _ _ (by simp <;> omega)])
  clear BP BO BR GV NU0 NU1
  generalize (w2.setCell ⟨w.heap.size + 1 + 1, 4, none⟩ (.slice a1 t.e.length c1)) = V2 at *
  have E2 := szE
  clear szE
  have q0 : V2.cell? ⟨w.heap.size + 1 + 1, 0, none⟩ = some (.int .i64 u0.k) := cell_of_row _ _ 0 _ _ _ BO2
  have q1 : V2.cell? ⟨w.heap.size + 1 + 1, 1, none⟩ = some (.int .i64 u0.v) := cell_of_row _ _ 1 _ _ _ BO2
  have q2 : V2.cell? ⟨w.heap.size + 1 + 1, 2, none⟩ = some (.slice u0.da u0.ds.length u0.dc) := cell_of_row _ _ 2 _ _ _ BO2
  have q3 : V2.cell? ⟨w.heap.size + 1 + 1, 3, none⟩ = some (.slice u0.a u0.ks.length u0.cap) := cell_of_row _ _ 3 _ _ _ BO2
  have q4 : V2.cell? ⟨w.heap.size + 1 + 1, 4, none⟩ = some (.slice a1 t.e.length c1) := cell_of_row _ _ 4 _ _ _ BO2
  have r0 : V2.cell? ⟨w.heap.size + 1, 0, none⟩ = some (.int .i64 0) := cell_of_row _ _ 0 _ _ _ BR2
  have y0 : V2.frozen? ⟨w.heap.size + 1, 0, none⟩ = false := by simp [World.frozen?, BR2]
  have r1 : V2.cell? ⟨w.heap.size + 1, 1, none⟩ = some (.int .i64 0) := cell_of_row _ _ 1 _ _ _ BR2
  have y1 : V2.frozen? ⟨w.heap.size + 1, 1, none⟩ = false := by simp [World.frozen?, BR2]
  have r2 : V2.cell? ⟨w.heap.size + 1, 2, none⟩ = some (.slice none 0 0) := cell_of_row _ _ 2 _ _ _ BR2
  have y2 : V2.frozen? ⟨w.heap.size + 1, 2, none⟩ = false := by simp [World.frozen?, BR2]
  have r3 : V2.cell? ⟨w.heap.size + 1, 3, none⟩ = some (.slice none 0 0) := cell_of_row _ _ 3 _ _ _ BR2
  have y3 : V2.frozen? ⟨w.heap.size + 1, 3, none⟩ = false := by simp [World.frozen?, BR2]
  have r4 : V2.cell? ⟨w.heap.size + 1, 4, none⟩ = some (.slice none 0 0) := cell_of_row _ _ 4 _ _ _ BR2
  have y4 : V2.frozen? ⟨w.heap.size + 1, 4, none⟩ = false := by simp [World.frozen?, BR2]
  have NU0 := Lib.hid NN0
  have NU1 := Lib.hid NN1
  have BR := Lib.hid BR2
  have GV := Lib.hid gW
  clear BP2 BO2 BR2 gW sz0 NN0 NN1
  go_wp2_with fail
  clear q0 r0 y0 q1 r1 y1 q2 r2 y2 q3 r3 y3 q4 r4 y4
  have BRF : (((((V2.setCell ⟨w.heap.size + 1, 0, none⟩ (.int .i64 u0.k)).setCell ⟨w.heap.size + 1, 1, none⟩ (.int .i64 u0.v)).setCell ⟨w.heap.size + 1, 2, none⟩ (.slice u0.da u0.ds.length u0.dc)).setCell ⟨w.heap.size + 1, 3, none⟩ (.slice u0.a u0.ks.length u0.cap)).setCell ⟨w.heap.size + 1, 4, none⟩ (.slice a1 t.e.length c1)).heap[w.heap.size + 1]? = some (.cells #[.int .i64 u0.k, .int .i64 u0.v, .slice u0.da u0.ds.length u0.dc, .slice u0.a u0.ks.length u0.cap, .slice a1 t.e.length c1] 44 (0, 0)) := (by
    have hq := (kset_at (i := 4) (v := .slice a1 t.e.length c1) (kset_at (i := 3) (v := .slice u0.a u0.ks.length u0.cap) (kset_at (i := 2) (v := .slice u0.da u0.ds.length u0.dc) (kset_at (i := 1) (v := .int .i64 u0.v) (kset_at (i := 0) (v := .int .i64 u0.k) BR.out)))))
    simp only [List.setIfInBounds_toArray, List.set_cons_succ, List.set_cons_zero] at hq
    exact hq)
  have gWF : Gw w (((((V2.setCell ⟨w.heap.size + 1, 0, none⟩ (.int .i64 u0.k)).setCell ⟨w.heap.size + 1, 1, none⟩ (.int .i64 u0.v)).setCell ⟨w.heap.size + 1, 2, none⟩ (.slice u0.da u0.ds.length u0.dc)).setCell ⟨w.heap.size + 1, 3, none⟩ (.slice u0.a u0.ks.length u0.cap)).setCell ⟨w.heap.size + 1, 4, none⟩ (.slice a1 t.e.length c1)) := (Below.setCell (Below.setCell (Below.setCell (Below.setCell (Below.setCell GV.out (by simp <;> omega) _) (by simp <;> omega) _) (by simp <;> omega) _) (by simp <;> omega) _) (by simp <;> omega) _)
  have far : ∀ c, w.heap.size + 3 ≤ c → (((((V2.setCell ⟨w.heap.size + 1, 0, none⟩ (.int .i64 u0.k)).setCell ⟨w.heap.size + 1, 1, none⟩ (.int .i64 u0.v)).setCell ⟨w.heap.size + 1, 2, none⟩ (.slice u0.da u0.ds.length u0.dc)).setCell ⟨w.heap.size + 1, 3, none⟩ (.slice u0.a u0.ks.length u0.cap)).setCell ⟨w.heap.size + 1, 4, none⟩ (.slice a1 t.e.length c1)).heap[c]? = V2.heap[c]? := fun c hc => by
    rw [Below.heap_setCell _ _ _ _ (by simp <;> omega), Below.heap_setCell _ _ _ _ (by simp <;> omega), Below.heap_setCell _ _ _ _ (by simp <;> omega), Below.heap_setCell _ _ _ _ (by simp <;> omega), Below.heap_setCell _ _ _ _ (by simp <;> omega)]
  generalize (((((V2.setCell ⟨w.heap.size + 1, 0, none⟩ (.int .i64 u0.k)).setCell ⟨w.heap.size + 1, 1, none⟩ (.int .i64 u0.v)).setCell ⟨w.heap.size + 1, 2, none⟩ (.slice u0.da u0.ds.length u0.dc)).setCell ⟨w.heap.size + 1, 3, none⟩ (.slice u0.a u0.ks.length u0.cap)).setCell ⟨w.heap.size + 1, 4, none⟩ (.slice a1 t.e.length c1)) = WF at *
  have e0 : WF.cell? ⟨w.heap.size + 1, 0, none⟩ = some (.int .i64 u0.k) := cell_of_row _ _ 0 _ _ _ BRF
  have e1 : WF.cell? ⟨w.heap.size + 1, 1, none⟩ = some (.int .i64 u0.v) := cell_of_row _ _ 1 _ _ _ BRF
  have e2 : WF.cell? ⟨w.heap.size + 1, 2, none⟩ = some (.slice u0.da u0.ds.length u0.dc) := cell_of_row _ _ 2 _ _ _ BRF
  have e3 : WF.cell? ⟨w.heap.size + 1, 3, none⟩ = some (.slice u0.a u0.ks.length u0.cap) := cell_of_row _ _ 3 _ _ _ BRF
  have e4 : WF.cell? ⟨w.heap.size + 1, 4, none⟩ = some (.slice a1 t.e.length c1) := cell_of_row _ _ 4 _ _ _ BRF
  refine bodyPost_ret (v := .agg #[.int .i64 u0.k, .int .i64 u0.v, .slice u0.da u0.ds.length u0.dc, .slice u0.a u0.ks.length u0.cap, .slice a1 t.e.length c1]) (by simp [results, Tryd.results31, go_sem, e0, e1, e2, e3, e4]) rfl ⟨⟨u0, a1, c1, t.e⟩, rfl, ?_, ?_, gWF⟩
  · show (u0.co, t.e) = (t.t.co, t.e)
    rw [HU0.out]
  · exact LCl.new_mk (gNew.same coFr NU0.out fun c hc => far c (by have := (NU0.out.2.2 c hc).1; have := S0.out; omega)) (gNewSl.same (by decide) nLen nFr NU1.out fun c hc => far c (by have := (NU1.out.2.2 c hc).1; have := S1.out; omega)) (fun b hb => by have := HB0.out b hb; have := E1.out; omega) (by have := S0.out; omega) (by have := S0.out; have := E1.out; omega)

theorem LFr.new_mk {w : World} {B : Nat} {B0 B1 : Nat} {k : Int} {v : Int} {da : Option Addr} {dc : Nat} {d : List Int} {c : LCl} (o_k : cin64 k) (o_v : cin64 v) (n0 : gNewSl 1 nE nOk nB B0 w da dc d) (n1 : gNew clOk clB B1 w c) (m0 : ∀ b ∈ nbl nB da d, b < B1) (l0 : B ≤ B0) (l1 : B0 ≤ B1) : LFr.New B w ⟨k, v, da, dc, d, c⟩ := by
  refine ⟨⟨o_k, o_v, n0.1, n1.1⟩, List.nodup_append.2 ⟨n0.2.1, n1.2.1, fun x hx y hy e => ?_⟩, fun b hb => ?_⟩
  · subst e
    have := m0 x hx
    have := (n1.2.2 x hy).1
    omega
  · rcases List.mem_append.1 hb with hb | hb
    · exact ⟨Nat.le_trans l0 (n0.2.2 b hb).1, (n0.2.2 b hb).2⟩
    · exact ⟨Nat.le_trans (Nat.le_trans l0 l1) (n1.2.2 b hb).1, (n1.2.2 b hb).2⟩

def ToLFr (w : World) (t : LFr) (e : Ending) (w' : World) : Prop := ∃ u : LFr, e = .returned u.val ∧ u.pu = t.pu ∧ u.New w.heap.size w' ∧ Gw w w'
def ToLFrS (w : World) (ks : List LFr) (e : Ending) (w' : World) : Prop := ∃ (us : List LFr) (a : Option Addr) (cap : Nat), e = .returned (.slice a us.length cap) ∧ us.map LFr.pu = ks.map LFr.pu ∧ frNew w.heap.size w' a cap us ∧ Gw w w'
set_option maxRecDepth 100000 in
set_option maxHeartbeats 2000000 in
set_option linter.unusedSimpArgs false in
theorem laws_toFrame (t : LFr) (w : World) (h : frOk w t) (hs : t.sz ≤ 1048576) : Calls Tryd.prog 70 #[t.val] w (ToLFr w t) := by
  have o_k := Lib.hid (h.1)
  have o_v := Lib.hid (h.2.1)
  have o_d := Lib.hid (h.2.2.1)
  have o_c := Lib.hid (h.2.2.2)
  have z0 := Lib.hid (show t.d.length ≤ 1048576 by unfold LFr.sz at hs; omega)
  have z1 := Lib.hid (show t.c.sz ≤ 1048576 by unfold LFr.sz at hs; omega)
  clear h hs
  go_enter Tryd.func70, Tryd.ntmps70
  go_wp2_with fail
  have BP0 : (((w.alloc (.cells #[.int .i64 t.k, .int .i64 t.v, .slice t.da t.d.length t.dc, .int .i64 t.c.t.k, .int .i64 t.c.t.v, .slice t.c.t.da t.c.t.ds.length t.c.t.dc, .slice t.c.t.a t.c.t.ks.length t.c.t.cap, .slice t.c.ea t.c.e.length t.c.ec] 110)).alloc (.cells #[.int .i64 0, .int .i64 0, .slice none 0 0, .int .i64 0, .int .i64 0, .slice none 0 0, .slice none 0 0, .slice none 0 0] 74)).alloc (.cells #[.int .i64 t.k, .int .i64 t.v, .slice none 0 0, .int .i64 0, .int .i64 0, .slice none 0 0, .slice none 0 0, .slice none 0 0] 74)).heap[w.heap.size]? = some (.cells #[.int .i64 t.k, .int .i64 t.v, .slice t.da t.d.length t.dc, .int .i64 t.c.t.k, .int .i64 t.c.t.v, .slice t.c.t.da t.c.t.ds.length t.c.t.dc, .slice t.c.t.a t.c.t.ks.length t.c.t.cap, .slice t.c.ea t.c.e.length t.c.ec] 110 (0, 0)) := by
    rw [Below.heap_alloc _ _ _ (by simp <;> omega), Below.heap_alloc _ _ _ (by simp)]
    exact heap_alloc_new _ _
  have BR0 : (((w.alloc (.cells #[.int .i64 t.k, .int .i64 t.v, .slice t.da t.d.length t.dc, .int .i64 t.c.t.k, .int .i64 t.c.t.v, .slice t.c.t.da t.c.t.ds.length t.c.t.dc, .slice t.c.t.a t.c.t.ks.length t.c.t.cap, .slice t.c.ea t.c.e.length t.c.ec] 110)).alloc (.cells #[.int .i64 0, .int .i64 0, .slice none 0 0, .int .i64 0, .int .i64 0, .slice none 0 0, .slice none 0 0, .slice none 0 0] 74)).alloc (.cells #[.int .i64 t.k, .int .i64 t.v, .slice none 0 0, .int .i64 0, .int .i64 0, .slice none 0 0, .slice none 0 0, .slice none 0 0] 74)).heap[w.heap.size + 1]? = some (.cells #[.int .i64 0, .int .i64 0, .slice none 0 0, .int .i64 0, .int .i64 0, .slice none 0 0, .slice none 0 0, .slice none 0 0] 74 (0, 0)) := by
    rw [Below.heap_alloc _ _ _ (by simp)]
    exact kheap_at _ _ _ _ rfl (by simp)
  have BO0 : (((w.alloc (.cells #[.int .i64 t.k, .int .i64 t.v, .slice t.da t.d.length t.dc, .int .i64 t.c.t.k, .int .i64 t.c.t.v, .slice t.c.t.da t.c.t.ds.length t.c.t.dc, .slice t.c.t.a t.c.t.ks.length t.c.t.cap, .slice t.c.ea t.c.e.length t.c.ec] 110)).alloc (.cells #[.int .i64 0, .int .i64 0, .slice none 0 0, .int .i64 0, .int .i64 0, .slice none 0 0, .slice none 0 0, .slice none 0 0] 74)).alloc (.cells #[.int .i64 t.k, .int .i64 t.v, .slice none 0 0, .int .i64 0, .int .i64 0, .slice none 0 0, .slice none 0 0, .slice none 0 0] 74)).heap[w.heap.size + 1 + 1]? = some (.cells #[.int .i64 t.k, .int .i64 t.v, .slice none 0 0, .int .i64 0, .int .i64 0, .slice none 0 0, .slice none 0 0, .slice none 0 0] 74 (0, 0)) := kheap_at _ _ _ _ rfl (by simp)
  have gW : Gw w (((w.alloc (.cells #[.int .i64 t.k, .int .i64 t.v, .slice t.da t.d.length t.dc, .int .i64 t.c.t.k, .int .i64 t.c.t.v, .slice t.c.t.da t.c.t.ds.length t.c.t.dc, .slice t.c.t.a t.c.t.ks.length t.c.t.cap, .slice t.c.ea t.c.e.length t.c.ec] 110)).alloc (.cells #[.int .i64 0, .int .i64 0, .slice none 0 0, .int .i64 0, .int .i64 0, .slice none 0 0, .slice none 0 0, .slice none 0 0] 74)).alloc (.cells #[.int .i64 t.k, .int .i64 t.v, .slice none 0 0, .int .i64 0, .int .i64 0, .slice none 0 0, .slice none 0 0, .slice none 0 0] 74)) := (((Gw.refl w).alloc _).alloc _).alloc _
  have sz0 : w.heap.size + 3 ≤ (((w.alloc (.cells #[.int .i64 t.k, .int .i64 t.v, .slice t.da t.d.length t.dc, .int .i64 t.c.t.k, .int .i64 t.c.t.v, .slice t.c.t.da t.c.t.ds.length t.c.t.dc, .slice t.c.t.a t.c.t.ks.length t.c.t.cap, .slice t.c.ea t.c.e.length t.c.ec] 110)).alloc (.cells #[.int .i64 0, .int .i64 0, .slice none 0 0, .int .i64 0, .int .i64 0, .slice none 0 0, .slice none 0 0, .slice none 0 0] 74)).alloc (.cells #[.int .i64 t.k, .int .i64 t.v, .slice none 0 0, .int .i64 0, .int .i64 0, .slice none 0 0, .slice none 0 0, .slice none 0 0] 74)).heap.size := by simp
  generalize (((w.alloc (.cells #[.int .i64 t.k, .int .i64 t.v, .slice t.da t.d.length t.dc, .int .i64 t.c.t.k, .int .i64 t.c.t.v, .slice t.c.t.da t.c.t.ds.length t.c.t.dc, .slice t.c.t.a t.c.t.ks.length t.c.t.cap, .slice t.c.ea t.c.e.length t.c.ec] 110)).alloc (.cells #[.int .i64 0, .int .i64 0, .slice none 0 0, .int .i64 0, .int .i64 0, .slice none 0 0, .slice none 0 0, .slice none 0 0] 74)).alloc (.cells #[.int .i64 t.k, .int .i64 t.v, .slice none 0 0, .int .i64 0, .int .i64 0, .slice none 0 0, .slice none 0 0, .slice none 0 0] 74)) = V0 at *
  refine (laws_toNumS t.d _ t.da t.dc (gSl.grow nLen nGr o_d.out gW) (z0.out)).mono ?_
  rintro e w1 ⟨a0, c0, rfl, nu, hg⟩
  have BP1 := (hg.block _ (by omega)).trans BP0
  have BO1 := (hg.block _ (by omega)).trans BO0
  have BR1 := (hg.block _ (by omega)).trans BR0
  have gV1 := gW.trans hg
  have S0 := Lib.hid (show w.heap.size + 3 ≤ V0.heap.size ∧ V0.heap.size ≤ w1.heap.size from ⟨sz0, hg.size⟩)
  have NU0 := Lib.hid nu
  have HB0 := Lib.hid (fun b (hb : b ∈ nbl nB a0 t.d) => (nu.2.2 b hb).2.lt)
  have p3 : w1.cell? ⟨w.heap.size, 3, none⟩ = some (.int .i64 t.c.t.k) := cell_of_row _ _ 3 _ _ _ BP1
  have p4 : w1.cell? ⟨w.heap.size, 4, none⟩ = some (.int .i64 t.c.t.v) := cell_of_row _ _ 4 _ _ _ BP1
  have p5 : w1.cell? ⟨w.heap.size, 5, none⟩ = some (.slice t.c.t.da t.c.t.ds.length t.c.t.dc) := cell_of_row _ _ 5 _ _ _ BP1
  have p6 : w1.cell? ⟨w.heap.size, 6, none⟩ = some (.slice t.c.t.a t.c.t.ks.length t.c.t.cap) := cell_of_row _ _ 6 _ _ _ BP1
  have p7 : w1.cell? ⟨w.heap.size, 7, none⟩ = some (.slice t.c.ea t.c.e.length t.c.ec) := cell_of_row _ _ 7 _ _ _ BP1
  have q2 : w1.cell? ⟨w.heap.size + 1 + 1, 2, none⟩ = some (.slice none 0 0) := cell_of_row _ _ 2 _ _ _ BO1
  have x2 : w1.frozen? ⟨w.heap.size + 1 + 1, 2, none⟩ = false := by simp [World.frozen?, BO1]
  have BP := Lib.hid BP1
  have BO := Lib.hid BO1
  have BR := Lib.hid BR1
  have GV := Lib.hid gV1
  clear nu hg sz0 gW BP0 BO0 BR0 BP1 BO1 BR1 gV1
  go_wp2_with fail
  clear p3 p4 p5 p6 p7 q2 x2
  have BP1 : (w1.setCell ⟨w.heap.size + 1 + 1, 2, none⟩ (.slice a0 t.d.length c0)).heap[w.heap.size]? = some (.cells #[.int .i64 t.k, .int .i64 t.v, .slice t.da t.d.length t.dc, .int .i64 t.c.t.k, .int .i64 t.c.t.v, .slice t.c.t.da t.c.t.ds.length t.c.t.dc, .slice t.c.t.a t.c.t.ks.length t.c.t.cap, .slice t.c.ea t.c.e.length t.c.ec] 110 (0, 0)) := by
    rw [Below.heap_setCell _ _ _ _ (by simp <;> omega)]
    exact BP.out
  have BR1 : (w1.setCell ⟨w.heap.size + 1 + 1, 2, none⟩ (.slice a0 t.d.length c0)).heap[w.heap.size + 1]? = some (.cells #[.int .i64 0, .int .i64 0, .slice none 0 0, .int .i64 0, .int .i64 0, .slice none 0 0, .slice none 0 0, .slice none 0 0] 74 (0, 0)) := by
    rw [Below.heap_setCell _ _ _ _ (by simp <;> omega)]
    exact BR.out
  have BO1 : (w1.setCell ⟨w.heap.size + 1 + 1, 2, none⟩ (.slice a0 t.d.length c0)).heap[w.heap.size + 1 + 1]? = some (.cells #[.int .i64 t.k, .int .i64 t.v, .slice a0 t.d.length c0, .int .i64 0, .int .i64 0, .slice none 0 0, .slice none 0 0, .slice none 0 0] 74 (0, 0)) := (by
    have hq := (kset_at (i := 2) (v := .slice a0 t.d.length c0) BO.out)
    simp only [List.setIfInBounds_toArray, List.set_cons_succ, List.set_cons_zero] at hq
    exact hq)
  have gW : Gw w (w1.setCell ⟨w.heap.size + 1 + 1, 2, none⟩ (.slice a0 t.d.length c0)) := (Below.setCell GV.out (by simp <;> omega) _)
  have sz0 : w.heap.size + 3 ≤ (w1.setCell ⟨w.heap.size + 1 + 1, 2, none⟩ (.slice a0 t.d.length c0)).heap.size := by have := S0.out; simp [World.setCell]; omega
  have szE := Lib.hid (show (w1.setCell ⟨w.heap.size + 1 + 1, 2, none⟩ (.slice a0 t.d.length c0)).heap.size = w1.heap.size by simp [World.setCell])
  have NN0 := gNewSl.same (by decide) nLen nFr NU0.out (w' := (w1.setCell ⟨w.heap.size + 1 + 1, 2, none⟩ (.slice a0 t.d.length c0))) (fun c hc => by
    have := (NU0.out.2.2 c hc).1
    have := S0.out
    rw [Below.heap_setCell _ _ _ _ (by simp <;> omega)])
  clear BP BO BR GV NU0
  generalize (w1.setCell ⟨w.heap.size + 1 + 1, 2, none⟩ (.slice a0 t.d.length c0)) = V1 at *
  have E1 := szE
  clear szE
  refine (laws_toClosure t.c _ (clGr _ _ _ o_c.out gW) z1.out).mono ?_
  rintro e w2 ⟨u1, rfl, hu, nu, hg⟩
  have HU1 := Lib.hid hu
  have BP2 := (hg.block _ (by omega)).trans BP1
  have BO2 := (hg.block _ (by omega)).trans BO1
  have BR2 := (hg.block _ (by omega)).trans BR1
  have gV2 := gW.trans hg
  have S1 := Lib.hid (show w.heap.size + 3 ≤ V1.heap.size ∧ V1.heap.size ≤ w2.heap.size from ⟨sz0, hg.size⟩)
  have NU1 := Lib.hid nu
  have HB1 := Lib.hid (fun b (hb : b ∈ clB u1) => (nu.2.2 b hb).2.lt)
  have NU0 := Lib.hid (gNewSl.grow nLen nGr NN0 hg)
  have q0 : w2.cell? ⟨w.heap.size + 1 + 1, 0, none⟩ = some (.int .i64 t.k) := cell_of_row _ _ 0 _ _ _ BO2
  have q1 : w2.cell? ⟨w.heap.size + 1 + 1, 1, none⟩ = some (.int .i64 t.v) := cell_of_row _ _ 1 _ _ _ BO2
  have q2 : w2.cell? ⟨w.heap.size + 1 + 1, 2, none⟩ = some (.slice a0 t.d.length c0) := cell_of_row _ _ 2 _ _ _ BO2
  have q3 : w2.cell? ⟨w.heap.size + 1 + 1, 3, none⟩ = some (.int .i64 0) := cell_of_row _ _ 3 _ _ _ BO2
  have q4 : w2.cell? ⟨w.heap.size + 1 + 1, 4, none⟩ = some (.int .i64 0) := cell_of_row _ _ 4 _ _ _ BO2
  have q5 : w2.cell? ⟨w.heap.size + 1 + 1, 5, none⟩ = some (.slice none 0 0) := cell_of_row _ _ 5 _ _ _ BO2
  have q6 : w2.cell? ⟨w.heap.size + 1 + 1, 6, none⟩ = some (.slice none 0 0) := cell_of_row _ _ 6 _ _ _ BO2
  have q7 : w2.cell? ⟨w.heap.size + 1 + 1, 7, none⟩ = some (.slice none 0 0) := cell_of_row _ _ 7 _ _ _ BO2
  have x3 : w2.frozen? ⟨w.heap.size + 1 + 1, 3, none⟩ = false := by simp [World.frozen?, BO2]
  have x4 : w2.frozen? ⟨w.heap.size + 1 + 1, 4, none⟩ = false := by simp [World.frozen?, BO2]
  have x5 : w2.frozen? ⟨w.heap.size + 1 + 1, 5, none⟩ = false := by simp [World.frozen?, BO2]
  have x6 : w2.frozen? ⟨w.heap.size + 1 + 1, 6, none⟩ = false := by simp [World.frozen?, BO2]
  have x7 : w2.frozen? ⟨w.heap.size + 1 + 1, 7, none⟩ = false := by simp [World.frozen?, BO2]
  have BP := Lib.hid BP2
  have BO := Lib.hid BO2
  have BR := Lib.hid BR2
  have GV := Lib.hid gV2
  clear nu hg sz0 gW BP1 BO1 BR1 BP2 BO2 BR2 gV2 hu NN0
  go_upto_region 6 with (fail)
  clear  q0 q1 q2 q3 q4 q5 q6 q7 x3 x4 x5 x6 x7
  have BP2 : (((((w2.setCell ⟨w.heap.size + 1 + 1, 3, none⟩ (.int .i64 u1.t.k)).setCell ⟨w.heap.size + 1 + 1, 4, none⟩ (.int .i64 u1.t.v)).setCell ⟨w.heap.size + 1 + 1, 5, none⟩ (.slice u1.t.da u1.t.ds.length u1.t.dc)).setCell ⟨w.heap.size + 1 + 1, 6, none⟩ (.slice u1.t.a u1.t.ks.length u1.t.cap)).setCell ⟨w.heap.size + 1 + 1, 7, none⟩ (.slice u1.ea u1.e.length u1.ec)).heap[w.heap.size]? = some (.cells #[.int .i64 t.k, .int .i64 t.v, .slice t.da t.d.length t.dc, .int .i64 t.c.t.k, .int .i64 t.c.t.v, .slice t.c.t.da t.c.t.ds.length t.c.t.dc, .slice t.c.t.a t.c.t.ks.length t.c.t.cap, .slice t.c.ea t.c.e.length t.c.ec] 110 (0, 0)) := by
    rw [Below.heap_setCell _ _ _ _ (by simp <;> omega), Below.heap_setCell _ _ _ _ (by simp <;> omega), Below.heap_setCell _ _ _ _ (by simp <;> omega), Below.heap_setCell _ _ _ _ (by simp <;> omega), Below.heap_setCell _ _ _ _ (by simp <;> omega)]
    exact BP.out
  have BR2 : (((((w2.setCell ⟨w.heap.size + 1 + 1, 3, none⟩ (.int .i64 u1.t.k)).setCell ⟨w.heap.size + 1 + 1, 4, none⟩ (.int .i64 u1.t.v)).setCell ⟨w.heap.size + 1 + 1, 5, none⟩ (.slice u1.t.da u1.t.ds.length u1.t.dc)).setCell ⟨w.heap.size + 1 + 1, 6, none⟩ (.slice u1.t.a u1.t.ks.length u1.t.cap)).setCell ⟨w.heap.size + 1 + 1, 7, none⟩ (.slice u1.ea u1.e.length u1.ec)).heap[w.heap.size + 1]? = some (.cells #[.int .i64 0, .int .i64 0, .slice none 0 0, .int .i64 0, .int .i64 0, .slice none 0 0, .slice none 0 0, .slice none 0 0] 74 (0, 0)) := by
    rw [Below.heap_setCell _ _ _ _ (by simp <;> omega), Below.heap_setCell _ _ _ _ (by simp <;> omega), Below.heap_setCell _ _ _ _ (by simp <;> omega), Below.heap_setCell _ _ _ _ (by simp <;> omega), Below.heap_setCell _ _ _ _ (by simp <;> omega)]
    exact BR.out
  have BO2 : (((((w2.setCell ⟨w.heap.size + 1 + 1, 3, none⟩ (.int .i64 u1.t.k)).setCell ⟨w.heap.size + 1 + 1, 4, none⟩ (.int .i64 u1.t.v)).setCell ⟨w.heap.size + 1 + 1, 5, none⟩ (.slice u1.t.da u1.t.ds.length u1.t.dc)).setCell ⟨w.heap.size + 1 + 1, 6, none⟩ (.slice u1.t.a u1.t.ks.length u1.t.cap)).setCell ⟨w.heap.size + 1 + 1, 7, none⟩ (.slice u1.ea u1.e.length u1.ec)).heap[w.heap.size + 1 + 1]? = some (.cells #[.int .i64 t.k, .int .i64 t.v, .slice a0 t.d.length c0, .int .i64 u1.t.k, .int .i64 u1.t.v, .slice u1.t.da u1.t.ds.length u1.t.dc, .slice u1.t.a u1.t.ks.length u1.t.cap, .slice u1.ea u1.e.length u1.ec] 74 (0, 0)) := (by
    have hq := (kset_at (i := 7) (v := .slice u1.ea u1.e.length u1.ec) (kset_at (i := 6) (v := .slice u1.t.a u1.t.ks.length u1.t.cap) (kset_at (i := 5) (v := .slice u1.t.da u1.t.ds.length u1.t.dc) (kset_at (i := 4) (v := .int .i64 u1.t.v) (kset_at (i := 3) (v := .int .i64 u1.t.k) BO.out)))))
    simp only [List.setIfInBounds_toArray, List.set_cons_succ, List.set_cons_zero] at hq
    exact hq)
  have gW : Gw w (((((w2.setCell ⟨w.heap.size + 1 + 1, 3, none⟩ (.int .i64 u1.t.k)).setCell ⟨w.heap.size + 1 + 1, 4, none⟩ (.int .i64 u1.t.v)).setCell ⟨w.heap.size + 1 + 1, 5, none⟩ (.slice u1.t.da u1.t.ds.length u1.t.dc)).setCell ⟨w.heap.size + 1 + 1, 6, none⟩ (.slice u1.t.a u1.t.ks.length u1.t.cap)).setCell ⟨w.heap.size + 1 + 1, 7, none⟩ (.slice u1.ea u1.e.length u1.ec)) := (Below.setCell (Below.setCell (Below.setCell (Below.setCell (Below.setCell GV.out (by simp <;> omega) _) (by simp <;> omega) _) (by simp <;> omega) _) (by simp <;> omega) _) (by simp <;> omega) _)
  have sz0 : w.heap.size + 3 ≤ (((((w2.setCell ⟨w.heap.size + 1 + 1, 3, none⟩ (.int .i64 u1.t.k)).setCell ⟨w.heap.size + 1 + 1, 4, none⟩ (.int .i64 u1.t.v)).setCell ⟨w.heap.size + 1 + 1, 5, none⟩ (.slice u1.t.da u1.t.ds.length u1.t.dc)).setCell ⟨w.heap.size + 1 + 1, 6, none⟩ (.slice u1.t.a u1.t.ks.length u1.t.cap)).setCell ⟨w.heap.size + 1 + 1, 7, none⟩ (.slice u1.ea u1.e.length u1.ec)).heap.size := by have := S1.out; simp [World.setCell]; omega
  have szE := Lib.hid (show (((((w2.setCell ⟨w.heap.size + 1 + 1, 3, none⟩ (.int .i64 u1.t.k)).setCell ⟨w.heap.size + 1 + 1, 4, none⟩ (.int .i64 u1.t.v)).setCell ⟨w.heap.size + 1 + 1, 5, none⟩ (.slice u1.t.da u1.t.ds.length u1.t.dc)).setCell ⟨w.heap.size + 1 + 1, 6, none⟩ (.slice u1.t.a u1.t.ks.length u1.t.cap)).setCell ⟨w.heap.size + 1 + 1, 7, none⟩ (.slice u1.ea u1.e.length u1.ec)).heap.size = w2.heap.size by simp [World.setCell])
  have NN0 := gNewSl.same (by decide) nLen nFr NU0.out (w' := (((((w2.setCell ⟨w.heap.size + 1 + 1, 3, none⟩ (.int .i64 u1.t.k)).setCell ⟨w.heap.size + 1 + 1, 4, none⟩ (.int .i64 u1.t.v)).setCell ⟨w.heap.size + 1 + 1, 5, none⟩ (.slice u1.t.da u1.t.ds.length u1.t.dc)).setCell ⟨w.heap.size + 1 + 1, 6, none⟩ (.slice u1.t.a u1.t.ks.length u1.t.cap)).setCell ⟨w.heap.size + 1 + 1, 7, none⟩ (.slice u1.ea u1.e.length u1.ec))) (fun c hc => by
    have := (NU0.out.2.2 c hc).1
    have := S0.out
    rw [Below.heap_setCell _ _ _ _ (by simp <;> omega), Below.heap_setCell _ _ _ _ (by simp <;> omega), Below.heap_setCell _ _ _ _ (by simp <;> omega), Below.heap_setCell _ _ _ _ (by simp <;> omega), Below.heap_setCell _ _ _ _ (by simp <;> omega)])
  have NN1 := gNew.same clFr NU1.out (w' := (((((w2.setCell ⟨w.heap.size + 1 + 1, 3, none⟩ (.int .i64 u1.t.k)).setCell ⟨w.heap.size + 1 + 1, 4, none⟩ (.int .i64 u1.t.v)).setCell ⟨w.heap.size + 1 + 1, 5, none⟩ (.slice u1.t.da u1.t.ds.length u1.t.dc)).setCell ⟨w.heap.size + 1 + 1, 6, none⟩ (.slice u1.t.a u1.t.ks.length u1.t.cap)).setCell ⟨w.heap.size + 1 + 1, 7, none⟩ (.slice u1.ea u1.e.length u1.ec))) (fun c hc => by
    have := (NU1.out.2.2 c hc).1
    have := S1.out
    rw [Below.heap_setCell _ _ _ _ (by simp <;> omega), Below.heap_setCell _ _ _ _ (by simp <;> omega), Below.heap_setCell _ _ _ _ (by simp <;> omega), Below.heap_setCell _ _ _ _ (by simp <;> omega), Below.heap_setCell _ _ _ _ (by simp <;> omega)])
  clear BP BO BR GV NU0 NU1
  generalize (((((w2.setCell ⟨w.heap.size + 1 + 1, 3, none⟩ (.int .i64 u1.t.k)).setCell ⟨w.heap.size + 1 + 1, 4, none⟩ (.int .i64 u1.t.v)).setCell ⟨w.heap.size + 1 + 1, 5, none⟩ (.slice u1.t.da u1.t.ds.length u1.t.dc)).setCell ⟨w.heap.size + 1 + 1, 6, none⟩ (.slice u1.t.a u1.t.ks.length u1.t.cap)).setCell ⟨w.heap.size + 1 + 1, 7, none⟩ (.slice u1.ea u1.e.length u1.ec)) = V2 at *
  have E2 := szE
  clear szE
  have q0 : V2.cell? ⟨w.heap.size + 1 + 1, 0, none⟩ = some (.int .i64 t.k) := cell_of_row _ _ 0 _ _ _ BO2
  have q1 : V2.cell? ⟨w.heap.size + 1 + 1, 1, none⟩ = some (.int .i64 t.v) := cell_of_row _ _ 1 _ _ _ BO2
  have q2 : V2.cell? ⟨w.heap.size + 1 + 1, 2, none⟩ = some (.slice a0 t.d.length c0) := cell_of_row _ _ 2 _ _ _ BO2
  have q3 : V2.cell? ⟨w.heap.size + 1 + 1, 3, none⟩ = some (.int .i64 u1.t.k) := cell_of_row _ _ 3 _ _ _ BO2
  have q4 : V2.cell? ⟨w.heap.size + 1 + 1, 4, none⟩ = some (.int .i64 u1.t.v) := cell_of_row _ _ 4 _ _ _ BO2
  have q5 : V2.cell? ⟨w.heap.size + 1 + 1, 5, none⟩ = some (.slice u1.t.da u1.t.ds.length u1.t.dc) := cell_of_row _ _ 5 _ _ _ BO2
  have q6 : V2.cell? ⟨w.heap.size + 1 + 1, 6, none⟩ = some (.slice u1.t.a u1.t.ks.length u1.t.cap) := cell_of_row _ _ 6 _ _ _ BO2
  have q7 : V2.cell? ⟨w.heap.size + 1 + 1, 7, none⟩ = some (.slice u1.ea u1.e.length u1.ec) := cell_of_row _ _ 7 _ _ _ BO2
  have r0 : V2.cell? ⟨w.heap.size + 1, 0, none⟩ = some (.int .i64 0) := cell_of_row _ _ 0 _ _ _ BR2
  have y0 : V2.frozen? ⟨w.heap.size + 1, 0, none⟩ = false := by simp [World.frozen?, BR2]
  have r1 : V2.cell? ⟨w.heap.size + 1, 1, none⟩ = some (.int .i64 0) := cell_of_row _ _ 1 _ _ _ BR2
  have y1 : V2.frozen? ⟨w.heap.size + 1, 1, none⟩ = false := by simp [World.frozen?, BR2]
  have r2 : V2.cell? ⟨w.heap.size + 1, 2, none⟩ = some (.slice none 0 0) := cell_of_row _ _ 2 _ _ _ BR2
  have y2 : V2.frozen? ⟨w.heap.size + 1, 2, none⟩ = false := by simp [World.frozen?, BR2]
  have r3 : V2.cell? ⟨w.heap.size + 1, 3, none⟩ = some (.int .i64 0) := cell_of_row _ _ 3 _ _ _ BR2
  have y3 : V2.frozen? ⟨w.heap.size + 1, 3, none⟩ = false := by simp [World.frozen?, BR2]
  have r4 : V2.cell? ⟨w.heap.size + 1, 4, none⟩ = some (.int .i64 0) := cell_of_row _ _ 4 _ _ _ BR2
  have y4 : V2.frozen? ⟨w.heap.size + 1, 4, none⟩ = false := by simp [World.frozen?, BR2]
  have r5 : V2.cell? ⟨w.heap.size + 1, 5, none⟩ = some (.slice none 0 0) := cell_of_row _ _ 5 _ _ _ BR2
  have y5 : V2.frozen? ⟨w.heap.size + 1, 5, none⟩ = false := by simp [World.frozen?, BR2]
  have r6 : V2.cell? ⟨w.heap.size + 1, 6, none⟩ = some (.slice none 0 0) := cell_of_row _ _ 6 _ _ _ BR2
  have y6 : V2.frozen? ⟨w.heap.size + 1, 6, none⟩ = false := by simp [World.frozen?, BR2]
  have r7 : V2.cell? ⟨w.heap.size + 1, 7, none⟩ = some (.slice none 0 0) := cell_of_row _ _ 7 _ _ _ BR2
  have y7 : V2.frozen? ⟨w.heap.size + 1, 7, none⟩ = false := by simp [World.frozen?, BR2]
  have NU0 := Lib.hid NN0
  have NU1 := Lib.hid NN1
  have BR := Lib.hid BR2
  have GV := Lib.hid gW
  clear BP2 BO2 BR2 gW sz0 NN0 NN1
  go_wp2_with fail
  clear q0 r0 y0 q1 r1 y1 q2 r2 y2 q3 r3 y3 q4 r4 y4 q5 r5 y5 q6 r6 y6 q7 r7 y7
  have BRF : ((((((((V2.setCell ⟨w.heap.size + 1, 0, none⟩ (.int .i64 t.k)).setCell ⟨w.heap.size + 1, 1, none⟩ (.int .i64 t.v)).setCell ⟨w.heap.size + 1, 2, none⟩ (.slice a0 t.d.length c0)).setCell ⟨w.heap.size + 1, 3, none⟩ (.int .i64 u1.t.k)).setCell ⟨w.heap.size + 1, 4, none⟩ (.int .i64 u1.t.v)).setCell ⟨w.heap.size + 1, 5, none⟩ (.slice u1.t.da u1.t.ds.length u1.t.dc)).setCell ⟨w.heap.size + 1, 6, none⟩ (.slice u1.t.a u1.t.ks.length u1.t.cap)).setCell ⟨w.heap.size + 1, 7, none⟩ (.slice u1.ea u1.e.length u1.ec)).heap[w.heap.size + 1]? = some (.cells #[.int .i64 t.k, .int .i64 t.v, .slice a0 t.d.length c0, .int .i64 u1.t.k, .int .i64 u1.t.v, .slice u1.t.da u1.t.ds.length u1.t.dc, .slice u1.t.a u1.t.ks.length u1.t.cap, .slice u1.ea u1.e.length u1.ec] 74 (0, 0)) := (by
    have hq := (kset_at (i := 7) (v := .slice u1.ea u1.e.length u1.ec) (kset_at (i := 6) (v := .slice u1.t.a u1.t.ks.length u1.t.cap) (kset_at (i := 5) (v := .slice u1.t.da u1.t.ds.length u1.t.dc) (kset_at (i := 4) (v := .int .i64 u1.t.v) (kset_at (i := 3) (v := .int .i64 u1.t.k) (kset_at (i := 2) (v := .slice a0 t.d.length c0) (kset_at (i := 1) (v := .int .i64 t.v) (kset_at (i := 0) (v := .int .i64 t.k) BR.out))))))))
    simp only [List.setIfInBounds_toArray, List.set_cons_succ, List.set_cons_zero] at hq
    exact hq)
  have gWF : Gw w ((((((((V2.setCell ⟨w.heap.size + 1, 0, none⟩ (.int .i64 t.k)).setCell ⟨w.heap.size + 1, 1, none⟩ (.int .i64 t.v)).setCell ⟨w.heap.size + 1, 2, none⟩ (.slice a0 t.d.length c0)).setCell ⟨w.heap.size + 1, 3, none⟩ (.int .i64 u1.t.k)).setCell ⟨w.heap.size + 1, 4, none⟩ (.int .i64 u1.t.v)).setCell ⟨w.heap.size + 1, 5, none⟩ (.slice u1.t.da u1.t.ds.length u1.t.dc)).setCell ⟨w.heap.size + 1, 6, none⟩ (.slice u1.t.a u1.t.ks.length u1.t.cap)).setCell ⟨w.heap.size + 1, 7, none⟩ (.slice u1.ea u1.e.length u1.ec)) := (Below.setCell (Below.setCell (Below.setCell (Below.setCell (Below.setCell (Below.setCell (Below.setCell (Below.setCell GV.out (by simp <;> omega) _) (by simp <;> omega) _) (by simp <;> omega) _) (by simp <;> omega) _) (by simp <;> omega) _) (by simp <;> omega) _) (by simp <;> omega) _) (by simp <;> omega) _)
  have far : ∀ c, w.heap.size + 3 ≤ c → ((((((((V2.setCell ⟨w.heap.size + 1, 0, none⟩ (.int .i64 t.k)).setCell ⟨w.heap.size + 1, 1, none⟩ (.int .i64 t.v)).setCell ⟨w.heap.size + 1, 2, none⟩ (.slice a0 t.d.length c0)).setCell ⟨w.heap.size + 1, 3, none⟩ (.int .i64 u1.t.k)).setCell ⟨w.heap.size + 1, 4, none⟩ (.int .i64 u1.t.v)).setCell ⟨w.heap.size + 1, 5, none⟩ (.slice u1.t.da u1.t.ds.length u1.t.dc)).setCell ⟨w.heap.size + 1, 6, none⟩ (.slice u1.t.a u1.t.ks.length u1.t.cap)).setCell ⟨w.heap.size + 1, 7, none⟩ (.slice u1.ea u1.e.length u1.ec)).heap[c]? = V2.heap[c]? := fun c hc => by
    rw [Below.heap_setCell _ _ _ _ (by simp <;> omega), Below.heap_setCell _ _ _ _ (by simp <;> omega), Below.heap_setCell _ _ _ _ (by simp <;> omega), Below.heap_setCell _ _ _ _ (by simp <;> omega), Below.heap_setCell _ _ _ _ (by simp <;> omega), Below.heap_setCell _ _ _ _ (by simp <;> omega), Below.heap_setCell _ _ _ _ (by simp <;> omega), Below.heap_setCell _ _ _ _ (by simp <;> omega)]
  generalize ((((((((V2.setCell ⟨w.heap.size + 1, 0, none⟩ (.int .i64 t.k)).setCell ⟨w.heap.size + 1, 1, none⟩ (.int .i64 t.v)).setCell ⟨w.heap.size + 1, 2, none⟩ (.slice a0 t.d.length c0)).setCell ⟨w.heap.size + 1, 3, none⟩ (.int .i64 u1.t.k)).setCell ⟨w.heap.size + 1, 4, none⟩ (.int .i64 u1.t.v)).setCell ⟨w.heap.size + 1, 5, none⟩ (.slice u1.t.da u1.t.ds.length u1.t.dc)).setCell ⟨w.heap.size + 1, 6, none⟩ (.slice u1.t.a u1.t.ks.length u1.t.cap)).setCell ⟨w.heap.size + 1, 7, none⟩ (.slice u1.ea u1.e.length u1.ec)) = WF at *
  have e0 : WF.cell? ⟨w.heap.size + 1, 0, none⟩ = some (.int .i64 t.k) := cell_of_row _ _ 0 _ _ _ BRF
  have e1 : WF.cell? ⟨w.heap.size + 1, 1, none⟩ = some (.int .i64 t.v) := cell_of_row _ _ 1 _ _ _ BRF
  have e2 : WF.cell? ⟨w.heap.size + 1, 2, none⟩ = some (.slice a0 t.d.length c0) := cell_of_row _ _ 2 _ _ _ BRF
  have e3 : WF.cell? ⟨w.heap.size + 1, 3, none⟩ = some (.int .i64 u1.t.k) := cell_of_row _ _ 3 _ _ _ BRF
  have e4 : WF.cell? ⟨w.heap.size + 1, 4, none⟩ = some (.int .i64 u1.t.v) := cell_of_row _ _ 4 _ _ _ BRF
  have e5 : WF.cell? ⟨w.heap.size + 1, 5, none⟩ = some (.slice u1.t.da u1.t.ds.length u1.t.dc) := cell_of_row _ _ 5 _ _ _ BRF
  have e6 : WF.cell? ⟨w.heap.size + 1, 6, none⟩ = some (.slice u1.t.a u1.t.ks.length u1.t.cap) := cell_of_row _ _ 6 _ _ _ BRF
  have e7 : WF.cell? ⟨w.heap.size + 1, 7, none⟩ = some (.slice u1.ea u1.e.length u1.ec) := cell_of_row _ _ 7 _ _ _ BRF
  refine bodyPost_ret (v := .agg #[.int .i64 t.k, .int .i64 t.v, .slice a0 t.d.length c0, .int .i64 u1.t.k, .int .i64 u1.t.v, .slice u1.t.da u1.t.ds.length u1.t.dc, .slice u1.t.a u1.t.ks.length u1.t.cap, .slice u1.ea u1.e.length u1.ec]) (by simp [results, Tryd.results70, go_sem, e0, e1, e2, e3, e4, e5, e6, e7]) rfl ⟨⟨t.k, t.v, a0, c0, t.d, u1⟩, rfl, ?_, ?_, gWF⟩
  · show (t.k, t.v, t.d, u1.pu) = (t.k, t.v, t.d, t.c.pu)
    rw [HU1.out]
  · exact LFr.new_mk o_k.out o_v.out (gNewSl.same (by decide) nLen nFr NU0.out fun c hc => far c (by have := (NU0.out.2.2 c hc).1; have := S0.out; omega)) (gNew.same clFr NU1.out fun c hc => far c (by have := (NU1.out.2.2 c hc).1; have := S1.out; omega)) (fun b hb => by have := HB0.out b hb; have := E1.out; omega) (by have := S0.out; omega) (by have := S0.out; have := E1.out; omega)

set_option maxHeartbeats 1000000 in
theorem laws_toFrameS (ks : List LFr) (w : World) (a : Option Addr) (cap : Nat) (h : frSl w a cap ks) (hs : sm LFr.sz ks ≤ 1048576) :
    Calls Tryd.prog 32 #[.slice a ks.length cap] w (ToLFrS w ks) := by
  have hl : ks.length ≤ 1048576 := Nat.le_trans (sm_ge LFr.sz ks) hs
  obtain ⟨_, _, hrow⟩ := h
  obtain ⟨i0, hi, hz0, hz1, hz2⟩ := info_parts (P := Tryd.prog) (e := 74) (z := .agg #[.int .i64 0, .int .i64 0, .slice none 0 0, .int .i64 0, .int .i64 0, .slice none 0 0, .slice none 0 0, .slice none 0 0]) (size := 8) (bytes := 128) (by kernel_rfl)
  have hmk : ∀ W : World, (Instr.makeSlice 45 (.int .i64 (ks.length : Int)) (.int .i64 (ks.length : Int))).run Tryd.prog W = .ok (.slice (some ⟨W.heap.size, 0, none⟩) ks.length ks.length) (W.alloc (.cells (madeCells #[.int .i64 0, .int .i64 0, .slice none 0 0, .int .i64 0, .int .i64 0, .slice none 0 0, .slice none 0 0, .slice none 0 0] (ks.length * 8)) 74)) := fun W => by
    have hr := run_make (P := Tryd.prog) W 45 74 i0 _ Tryd.underlying45 hi hz0 .i64 .i64 (ks.length : Int) (ks.length : Int) (by omega) (Int.le_refl _) (by rw [hz2]; omega) (by omega)
    rw [Int.toNat_natCast, hz1] at hr
    exact hr
  have HI := Lib.hid hi
  clear hi hz0 hz1 hz2
  go_enter Tryd.func32, Tryd.ntmps32
  go_wp2_with fail
  have hgw0 : Gw w (w.alloc (.cells (madeCells #[.int .i64 0, .int .i64 0, .slice none 0 0, .int .i64 0, .int .i64 0, .slice none 0 0, .slice none 0 0, .slice none 0 0] (ks.length * 8)) 74)) := (Gw.refl w).alloc _
  go_loopw [4] (fun i wr => ∃ us : List LFr, i = .int .i64 us.length ∧ us.map LFr.pu = (ks.take us.length).map LFr.pu ∧ gFill 8 frE frOk frB wr w.heap.size ks.length us ∧ Gw w wr) (fun i _ => ks.length - (intOf i).toNat)
  case atStart => exact ⟨[], rfl, rfl, gFill.start _ _ _ ⟨_, _, heap_alloc_new _ _, by rw [size_madeCells]⟩, hgw0⟩
  case round =>
    obtain ⟨us, rfl, hty, hfill, hg⟩ := hrel
    have HT := Lib.hid hty
    have HF := Lib.hid hfill
    have hj : us.length ≤ ks.length := hfill.1
    clear hty hfill hgw0 HI hmk
    by_cases hlt : us.length < ks.length
    · have hrow' := hrow.resolve_left (fun e => by subst e; simp at hlt)
      obtain ⟨b, o, rfl, hr⟩ := hrow'
      obtain ⟨c0, c1, c2, c3, c4, c5, c6, c7, hk⟩ := frRow_get (hr.grow frLen frGr hg) us.length hlt
      have hsm := sm_mem LFr.sz (List.getElem_mem hlt)
      clear hrow
      go_wp2_with fail
      refine (laws_toFrame ks[us.length] _ hk (by omega)).mono ?_
      rintro e w1 ⟨u, rfl, hu, hnew, hg1⟩
      have HU := Lib.hid hu
      have HN := Lib.hid hnew
      clear hu hnew c0 c1 c2 c3 c4 c5 c6 c7
      have hF1 := HF.out.grow frLen frGr hg1
      obtain ⟨v0, x0⟩ := hF1.room hlt 0 (by omega)
      obtain ⟨v1, x1⟩ := hF1.room hlt 1 (by omega)
      obtain ⟨v2, x2⟩ := hF1.room hlt 2 (by omega)
      obtain ⟨v3, x3⟩ := hF1.room hlt 3 (by omega)
      obtain ⟨v4, x4⟩ := hF1.room hlt 4 (by omega)
      obtain ⟨v5, x5⟩ := hF1.room hlt 5 (by omega)
      obtain ⟨v6, x6⟩ := hF1.room hlt 6 (by omega)
      obtain ⟨v7, x7⟩ := hF1.room hlt 7 (by omega)
      rw [Nat.add_zero] at x0
      have y0 := hF1.free (us.length * 8)
      have y1 := hF1.free (us.length * 8 + 1)
      have y2 := hF1.free (us.length * 8 + 2)
      have y3 := hF1.free (us.length * 8 + 3)
      have y4 := hF1.free (us.length * 8 + 4)
      have y5 := hF1.free (us.length * 8 + 5)
      have y6 := hF1.free (us.length * 8 + 6)
      have y7 := hF1.free (us.length * 8 + 7)
      have HF1 := Lib.hid hF1
      clear hF1
      go_wp2_with fail
      go_roundw
      case rel =>
        have hl1 : us.length + 1 = (us ++ [u]).length := by simp
        refine ⟨us ++ [u], by rw [← hl1]; go_num, ?_, ?_, ?_⟩
        · rw [← hl1, List.take_succ_eq_append_getElem hlt, List.map_append, List.map_append, HT.out]; simp [HU.out]
        · have := HF1.out.put frLen frFr hlt HN.out (fun b hb => ((HF.out.2.2.2.2 b hb).2).lt) HF.out.lt
          exact this
        · exact (Below.setCell (Below.setCell (Below.setCell (Below.setCell (Below.setCell (Below.setCell (Below.setCell (Below.setCell (hg.trans hg1) (by simp) _) (by simp) _) (by simp) _) (by simp) _) (by simp) _) (by simp) _) (by simp) _) (by simp) _)
      case measure => simp [intOf]; omega
    · have hall : us.length = ks.length := by omega
      have HA := Lib.hid hall
      clear hall
      have hdone := HF.out.done (cap := ks.length) (B := w.heap.size) hj (by unfold maxLen; omega) (Nat.le_refl _)
      have HD := Lib.hid hdone
      clear hdone
      go_wp2_with fail
      go_ret
      exact ⟨us, _, ks.length, ret_sl HA.out.symm, by rw [HT.out, HA.out, List.take_length], HD.out, hg⟩

theorem LTh.new_mk {w : World} {B : Nat} {B0 : Nat} {b : Bool} {c : LCl} (n0 : gNew clOk clB B0 w c) (l0 : B ≤ B0) : LTh.New B w ⟨b, c⟩ := by
  exact ⟨n0.1, n0.2.1, fun b hb => ⟨Nat.le_trans l0 (n0.2.2 b hb).1, (n0.2.2 b hb).2⟩⟩

def ToLTh (w : World) (t : LTh) (e : Ending) (w' : World) : Prop := ∃ u : LTh, e = .returned u.val ∧ u.pu = t.pu ∧ u.New w.heap.size w' ∧ Gw w w'
def ToLThS (w : World) (ks : List LTh) (e : Ending) (w' : World) : Prop := ∃ (us : List LTh) (a : Option Addr) (cap : Nat), e = .returned (.slice a us.length cap) ∧ us.map LTh.pu = ks.map LTh.pu ∧ thNew w.heap.size w' a cap us ∧ Gw w w'
set_option maxRecDepth 100000 in
set_option maxHeartbeats 2000000 in
set_option linter.unusedSimpArgs false in
theorem laws_toThunk (t : LTh) (w : World) (h : thOk w t) (hs : t.sz ≤ 1048576) : Calls Tryd.prog 71 #[t.val] w (ToLTh w t) := by
  have o_c := Lib.hid (h)
  have z0 := Lib.hid (show t.c.sz ≤ 1048576 by unfold LTh.sz at hs; omega)
  clear h hs
  go_enter Tryd.func71, Tryd.ntmps71
  go_wp2_with fail
  have BP0 : (((w.alloc (.cells #[.bool t.b, .int .i64 t.c.t.k, .int .i64 t.c.t.v, .slice t.c.t.da t.c.t.ds.length t.c.t.dc, .slice t.c.t.a t.c.t.ks.length t.c.t.cap, .slice t.c.ea t.c.e.length t.c.ec] 113)).alloc (.cells #[.bool false, .int .i64 0, .int .i64 0, .slice none 0 0, .slice none 0 0, .slice none 0 0] 79)).alloc (.cells #[.bool t.b, .int .i64 0, .int .i64 0, .slice none 0 0, .slice none 0 0, .slice none 0 0] 79)).heap[w.heap.size]? = some (.cells #[.bool t.b, .int .i64 t.c.t.k, .int .i64 t.c.t.v, .slice t.c.t.da t.c.t.ds.length t.c.t.dc, .slice t.c.t.a t.c.t.ks.length t.c.t.cap, .slice t.c.ea t.c.e.length t.c.ec] 113 (0, 0)) := by
    rw [Below.heap_alloc _ _ _ (by simp <;> omega), Below.heap_alloc _ _ _ (by simp)]
    exact heap_alloc_new _ _
  have BR0 : (((w.alloc (.cells #[.bool t.b, .int .i64 t.c.t.k, .int .i64 t.c.t.v, .slice t.c.t.da t.c.t.ds.length t.c.t.dc, .slice t.c.t.a t.c.t.ks.length t.c.t.cap, .slice t.c.ea t.c.e.length t.c.ec] 113)).alloc (.cells #[.bool false, .int .i64 0, .int .i64 0, .slice none 0 0, .slice none 0 0, .slice none 0 0] 79)).alloc (.cells #[.bool t.b, .int .i64 0, .int .i64 0, .slice none 0 0, .slice none 0 0, .slice none 0 0] 79)).heap[w.heap.size + 1]? = some (.cells #[.bool false, .int .i64 0, .int .i64 0, .slice none 0 0, .slice none 0 0, .slice none 0 0] 79 (0, 0)) := by
    rw [Below.heap_alloc _ _ _ (by simp)]
    exact kheap_at _ _ _ _ rfl (by simp)
  have BO0 : (((w.alloc (.cells #[.bool t.b, .int .i64 t.c.t.k, .int .i64 t.c.t.v, .slice t.c.t.da t.c.t.ds.length t.c.t.dc, .slice t.c.t.a t.c.t.ks.length t.c.t.cap, .slice t.c.ea t.c.e.length t.c.ec] 113)).alloc (.cells #[.bool false, .int .i64 0, .int .i64 0, .slice none 0 0, .slice none 0 0, .slice none 0 0] 79)).alloc (.cells #[.bool t.b, .int .i64 0, .int .i64 0, .slice none 0 0, .slice none 0 0, .slice none 0 0] 79)).heap[w.heap.size + 1 + 1]? = some (.cells #[.bool t.b, .int .i64 0, .int .i64 0, .slice none 0 0, .slice none 0 0, .slice none 0 0] 79 (0, 0)) := kheap_at _ _ _ _ rfl (by simp)
  have gW : Gw w (((w.alloc (.cells #[.bool t.b, .int .i64 t.c.t.k, .int .i64 t.c.t.v, .slice t.c.t.da t.c.t.ds.length t.c.t.dc, .slice t.c.t.a t.c.t.ks.length t.c.t.cap, .slice t.c.ea t.c.e.length t.c.ec] 113)).alloc (.cells #[.bool false, .int .i64 0, .int .i64 0, .slice none 0 0, .slice none 0 0, .slice none 0 0] 79)).alloc (.cells #[.bool t.b, .int .i64 0, .int .i64 0, .slice none 0 0, .slice none 0 0, .slice none 0 0] 79)) := (((Gw.refl w).alloc _).alloc _).alloc _
  have sz0 : w.heap.size + 3 ≤ (((w.alloc (.cells #[.bool t.b, .int .i64 t.c.t.k, .int .i64 t.c.t.v, .slice t.c.t.da t.c.t.ds.length t.c.t.dc, .slice t.c.t.a t.c.t.ks.length t.c.t.cap, .slice t.c.ea t.c.e.length t.c.ec] 113)).alloc (.cells #[.bool false, .int .i64 0, .int .i64 0, .slice none 0 0, .slice none 0 0, .slice none 0 0] 79)).alloc (.cells #[.bool t.b, .int .i64 0, .int .i64 0, .slice none 0 0, .slice none 0 0, .slice none 0 0] 79)).heap.size := by simp
  generalize (((w.alloc (.cells #[.bool t.b, .int .i64 t.c.t.k, .int .i64 t.c.t.v, .slice t.c.t.da t.c.t.ds.length t.c.t.dc, .slice t.c.t.a t.c.t.ks.length t.c.t.cap, .slice t.c.ea t.c.e.length t.c.ec] 113)).alloc (.cells #[.bool false, .int .i64 0, .int .i64 0, .slice none 0 0, .slice none 0 0, .slice none 0 0] 79)).alloc (.cells #[.bool t.b, .int .i64 0, .int .i64 0, .slice none 0 0, .slice none 0 0, .slice none 0 0] 79)) = V0 at *
  refine (laws_toClosure t.c _ (clGr _ _ _ o_c.out gW) z0.out).mono ?_
  rintro e w1 ⟨u0, rfl, hu, nu, hg⟩
  have HU0 := Lib.hid hu
  have BP1 := (hg.block _ (by omega)).trans BP0
  have BO1 := (hg.block _ (by omega)).trans BO0
  have BR1 := (hg.block _ (by omega)).trans BR0
  have gV1 := gW.trans hg
  have S0 := Lib.hid (show w.heap.size + 3 ≤ V0.heap.size ∧ V0.heap.size ≤ w1.heap.size from ⟨sz0, hg.size⟩)
  have NU0 := Lib.hid nu
  have HB0 := Lib.hid (fun b (hb : b ∈ clB u0) => (nu.2.2 b hb).2.lt)
  have q0 : w1.cell? ⟨w.heap.size + 1 + 1, 0, none⟩ = some (.bool t.b) := cell_of_row _ _ 0 _ _ _ BO1
  have q1 : w1.cell? ⟨w.heap.size + 1 + 1, 1, none⟩ = some (.int .i64 0) := cell_of_row _ _ 1 _ _ _ BO1
  have q2 : w1.cell? ⟨w.heap.size + 1 + 1, 2, none⟩ = some (.int .i64 0) := cell_of_row _ _ 2 _ _ _ BO1
  have q3 : w1.cell? ⟨w.heap.size + 1 + 1, 3, none⟩ = some (.slice none 0 0) := cell_of_row _ _ 3 _ _ _ BO1
  have q4 : w1.cell? ⟨w.heap.size + 1 + 1, 4, none⟩ = some (.slice none 0 0) := cell_of_row _ _ 4 _ _ _ BO1
  have q5 : w1.cell? ⟨w.heap.size + 1 + 1, 5, none⟩ = some (.slice none 0 0) := cell_of_row _ _ 5 _ _ _ BO1
  have x1 : w1.frozen? ⟨w.heap.size + 1 + 1, 1, none⟩ = false := by simp [World.frozen?, BO1]
  have x2 : w1.frozen? ⟨w.heap.size + 1 + 1, 2, none⟩ = false := by simp [World.frozen?, BO1]
  have x3 : w1.frozen? ⟨w.heap.size + 1 + 1, 3, none⟩ = false := by simp [World.frozen?, BO1]
  have x4 : w1.frozen? ⟨w.heap.size + 1 + 1, 4, none⟩ = false := by simp [World.frozen?, BO1]
  have x5 : w1.frozen? ⟨w.heap.size + 1 + 1, 5, none⟩ = false := by simp [World.frozen?, BO1]
  have BP := Lib.hid BP1
  have BO := Lib.hid BO1
  have BR := Lib.hid BR1
  have GV := Lib.hid gV1
  clear nu hg sz0 gW BP0 BO0 BR0 BP1 BO1 BR1 gV1 hu
  go_upto_region 4 with (fail)
  clear  q0 q1 q2 q3 q4 q5 x1 x2 x3 x4 x5
  have BP1 : (((((w1.setCell ⟨w.heap.size + 1 + 1, 1, none⟩ (.int .i64 u0.t.k)).setCell ⟨w.heap.size + 1 + 1, 2, none⟩ (.int .i64 u0.t.v)).setCell ⟨w.heap.size + 1 + 1, 3, none⟩ (.slice u0.t.da u0.t.ds.length u0.t.dc)).setCell ⟨w.heap.size + 1 + 1, 4, none⟩ (.slice u0.t.a u0.t.ks.length u0.t.cap)).setCell ⟨w.heap.size + 1 + 1, 5, none⟩ (.slice u0.ea u0.e.length u0.ec)).heap[w.heap.size]? = some (.cells #[.bool t.b, .int .i64 t.c.t.k, .int .i64 t.c.t.v, .slice t.c.t.da t.c.t.ds.length t.c.t.dc, .slice t.c.t.a t.c.t.ks.length t.c.t.cap, .slice t.c.ea t.c.e.length t.c.ec] 113 (0, 0)) := by
    rw [Below.heap_setCell _ _ _ _ (by simp <;> omega), Below.heap_setCell _ _ _ _ (by simp <;> omega), Below.heap_setCell _ _ _ _ (by simp <;> omega), Below.heap_setCell _ _ _ _ (by simp <;> omega), Below.heap_setCell _ _ _ _ (by simp <;> omega)]
    exact BP.out
  have BR1 : (((((w1.setCell ⟨w.heap.size + 1 + 1, 1, none⟩ (.int .i64 u0.t.k)).setCell ⟨w.heap.size + 1 + 1, 2, none⟩ (.int .i64 u0.t.v)).setCell ⟨w.heap.size + 1 + 1, 3, none⟩ (.slice u0.t.da u0.t.ds.length u0.t.dc)).setCell ⟨w.heap.size + 1 + 1, 4, none⟩ (.slice u0.t.a u0.t.ks.length u0.t.cap)).setCell ⟨w.heap.size + 1 + 1, 5, none⟩ (.slice u0.ea u0.e.length u0.ec)).heap[w.heap.size + 1]? = some (.cells #[.bool false, .int .i64 0, .int .i64 0, .slice none 0 0, .slice none 0 0, .slice none 0 0] 79 (0, 0)) := by
    rw [Below.heap_setCell _ _ _ _ (by simp <;> omega), Below.heap_setCell _ _ _ _ (by simp <;> omega), Below.heap_setCell _ _ _ _ (by simp <;> omega), Below.heap_setCell _ _ _ _ (by simp <;> omega), Below.heap_setCell _ _ _ _ (by simp <;> omega)]
    exact BR.out
  have BO1 : (((((w1.setCell ⟨w.heap.size + 1 + 1, 1, none⟩ (.int .i64 u0.t.k)).setCell ⟨w.heap.size + 1 + 1, 2, none⟩ (.int .i64 u0.t.v)).setCell ⟨w.heap.size + 1 + 1, 3, none⟩ (.slice u0.t.da u0.t.ds.length u0.t.dc)).setCell ⟨w.heap.size + 1 + 1, 4, none⟩ (.slice u0.t.a u0.t.ks.length u0.t.cap)).setCell ⟨w.heap.size + 1 + 1, 5, none⟩ (.slice u0.ea u0.e.length u0.ec)).heap[w.heap.size + 1 + 1]? = some (.cells #[.bool t.b, .int .i64 u0.t.k, .int .i64 u0.t.v, .slice u0.t.da u0.t.ds.length u0.t.dc, .slice u0.t.a u0.t.ks.length u0.t.cap, .slice u0.ea u0.e.length u0.ec] 79 (0, 0)) := (by
    have hq := (kset_at (i := 5) (v := .slice u0.ea u0.e.length u0.ec) (kset_at (i := 4) (v := .slice u0.t.a u0.t.ks.length u0.t.cap) (kset_at (i := 3) (v := .slice u0.t.da u0.t.ds.length u0.t.dc) (kset_at (i := 2) (v := .int .i64 u0.t.v) (kset_at (i := 1) (v := .int .i64 u0.t.k) BO.out)))))
    simp only [List.setIfInBounds_toArray, List.set_cons_succ, List.set_cons_zero] at hq
    exact hq)
  have gW : Gw w (((((w1.setCell ⟨w.heap.size + 1 + 1, 1, none⟩ (.int .i64 u0.t.k)).setCell ⟨w.heap.size + 1 + 1, 2, none⟩ (.int .i64 u0.t.v)).setCell ⟨w.heap.size + 1 + 1, 3, none⟩ (.slice u0.t.da u0.t.ds.length u0.t.dc)).setCell ⟨w.heap.size + 1 + 1, 4, none⟩ (.slice u0.t.a u0.t.ks.length u0.t.cap)).setCell ⟨w.heap.size + 1 + 1, 5, none⟩ (.slice u0.ea u0.e.length u0.ec)) := (Below.setCell (Below.setCell (Below.setCell (Below.setCell (Below.setCell GV.out (by simp <;> omega) _) (by simp <;> omega) _) (by simp <;> omega) _) (by simp <;> omega) _) (by simp <;> omega) _)
  have sz0 : w.heap.size + 3 ≤ (((((w1.setCell ⟨w.heap.size + 1 + 1, 1, none⟩ (.int .i64 u0.t.k)).setCell ⟨w.heap.size + 1 + 1, 2, none⟩ (.int .i64 u0.t.v)).setCell ⟨w.heap.size + 1 + 1, 3, none⟩ (.slice u0.t.da u0.t.ds.length u0.t.dc)).setCell ⟨w.heap.size + 1 + 1, 4, none⟩ (.slice u0.t.a u0.t.ks.length u0.t.cap)).setCell ⟨w.heap.size + 1 + 1, 5, none⟩ (.slice u0.ea u0.e.length u0.ec)).heap.size := by have := S0.out; simp [World.setCell]; omega
  have szE := Lib.hid (show (((((w1.setCell ⟨w.heap.size + 1 + 1, 1, none⟩ (.int .i64 u0.t.k)).setCell ⟨w.heap.size + 1 + 1, 2, none⟩ (.int .i64 u0.t.v)).setCell ⟨w.heap.size + 1 + 1, 3, none⟩ (.slice u0.t.da u0.t.ds.length u0.t.dc)).setCell ⟨w.heap.size + 1 + 1, 4, none⟩ (.slice u0.t.a u0.t.ks.length u0.t.cap)).setCell ⟨w.heap.size + 1 + 1, 5, none⟩ (.slice u0.ea u0.e.length u0.ec)).heap.size = w1.heap.size by simp [World.setCell])
  have NN0 := gNew.same clFr NU0.out (w' := (((((w1.setCell ⟨w.heap.size + 1 + 1, 1, none⟩ (.int .i64 u0.t.k)).setCell ⟨w.heap.size + 1 + 1, 2, none⟩ (.int .i64 u0.t.v)).setCell ⟨w.heap.size + 1 + 1, 3, none⟩ (.slice u0.t.da u0.t.ds.length u0.t.dc)).setCell ⟨w.heap.size + 1 + 1, 4, none⟩ (.slice u0.t.a u0.t.ks.length u0.t.cap)).setCell ⟨w.heap.size + 1 + 1, 5, none⟩ (.slice u0.ea u0.e.length u0.ec))) (fun c hc => by
    have := (NU0.out.2.2 c hc).1
    have := S0.out
    rw [Below.heap_setCell _ _ _ _ (by simp <;> omega), Below.heap_setCell _ _ _ _ (by simp <;> omega), Below.heap_setCell _ _ _ _ (by simp <;> omega), Below.heap_setCell _ _ _ _ (by simp <;> omega), Below.heap_setCell _ _ _ _ (by simp <;> omega)])
  clear BP BO BR GV NU0
  generalize (((((w1.setCell ⟨w.heap.size + 1 + 1, 1, none⟩ (.int .i64 u0.t.k)).setCell ⟨w.heap.size + 1 + 1, 2, none⟩ (.int .i64 u0.t.v)).setCell ⟨w.heap.size + 1 + 1, 3, none⟩ (.slice u0.t.da u0.t.ds.length u0.t.dc)).setCell ⟨w.heap.size + 1 + 1, 4, none⟩ (.slice u0.t.a u0.t.ks.length u0.t.cap)).setCell ⟨w.heap.size + 1 + 1, 5, none⟩ (.slice u0.ea u0.e.length u0.ec)) = V1 at *
  have E1 := szE
  clear szE
  have q0 : V1.cell? ⟨w.heap.size + 1 + 1, 0, none⟩ = some (.bool t.b) := cell_of_row _ _ 0 _ _ _ BO1
  have q1 : V1.cell? ⟨w.heap.size + 1 + 1, 1, none⟩ = some (.int .i64 u0.t.k) := cell_of_row _ _ 1 _ _ _ BO1
  have q2 : V1.cell? ⟨w.heap.size + 1 + 1, 2, none⟩ = some (.int .i64 u0.t.v) := cell_of_row _ _ 2 _ _ _ BO1
  have q3 : V1.cell? ⟨w.heap.size + 1 + 1, 3, none⟩ = some (.slice u0.t.da u0.t.ds.length u0.t.dc) := cell_of_row _ _ 3 _ _ _ BO1
  have q4 : V1.cell? ⟨w.heap.size + 1 + 1, 4, none⟩ = some (.slice u0.t.a u0.t.ks.length u0.t.cap) := cell_of_row _ _ 4 _ _ _ BO1
  have q5 : V1.cell? ⟨w.heap.size + 1 + 1, 5, none⟩ = some (.slice u0.ea u0.e.length u0.ec) := cell_of_row _ _ 5 _ _ _ BO1
  have r0 : V1.cell? ⟨w.heap.size + 1, 0, none⟩ = some (.bool false) := cell_of_row _ _ 0 _ _ _ BR1
  have y0 : V1.frozen? ⟨w.heap.size + 1, 0, none⟩ = false := by simp [World.frozen?, BR1]
  have r1 : V1.cell? ⟨w.heap.size + 1, 1, none⟩ = some (.int .i64 0) := cell_of_row _ _ 1 _ _ _ BR1
  have y1 : V1.frozen? ⟨w.heap.size + 1, 1, none⟩ = false := by simp [World.frozen?, BR1]
  have r2 : V1.cell? ⟨w.heap.size + 1, 2, none⟩ = some (.int .i64 0) := cell_of_row _ _ 2 _ _ _ BR1
  have y2 : V1.frozen? ⟨w.heap.size + 1, 2, none⟩ = false := by simp [World.frozen?, BR1]
  have r3 : V1.cell? ⟨w.heap.size + 1, 3, none⟩ = some (.slice none 0 0) := cell_of_row _ _ 3 _ _ _ BR1
  have y3 : V1.frozen? ⟨w.heap.size + 1, 3, none⟩ = false := by simp [World.frozen?, BR1]
  have r4 : V1.cell? ⟨w.heap.size + 1, 4, none⟩ = some (.slice none 0 0) := cell_of_row _ _ 4 _ _ _ BR1
  have y4 : V1.frozen? ⟨w.heap.size + 1, 4, none⟩ = false := by simp [World.frozen?, BR1]
  have r5 : V1.cell? ⟨w.heap.size + 1, 5, none⟩ = some (.slice none 0 0) := cell_of_row _ _ 5 _ _ _ BR1
  have y5 : V1.frozen? ⟨w.heap.size + 1, 5, none⟩ = false := by simp [World.frozen?, BR1]
  have NU0 := Lib.hid NN0
  have BR := Lib.hid BR1
  have GV := Lib.hid gW
  clear BP1 BO1 BR1 gW sz0 NN0
  go_wp2_with fail
  clear q0 r0 y0 q1 r1 y1 q2 r2 y2 q3 r3 y3 q4 r4 y4 q5 r5 y5
  have BRF : ((((((V1.setCell ⟨w.heap.size + 1, 0, none⟩ (.bool t.b)).setCell ⟨w.heap.size + 1, 1, none⟩ (.int .i64 u0.t.k)).setCell ⟨w.heap.size + 1, 2, none⟩ (.int .i64 u0.t.v)).setCell ⟨w.heap.size + 1, 3, none⟩ (.slice u0.t.da u0.t.ds.length u0.t.dc)).setCell ⟨w.heap.size + 1, 4, none⟩ (.slice u0.t.a u0.t.ks.length u0.t.cap)).setCell ⟨w.heap.size + 1, 5, none⟩ (.slice u0.ea u0.e.length u0.ec)).heap[w.heap.size + 1]? = some (.cells #[.bool t.b, .int .i64 u0.t.k, .int .i64 u0.t.v, .slice u0.t.da u0.t.ds.length u0.t.dc, .slice u0.t.a u0.t.ks.length u0.t.cap, .slice u0.ea u0.e.length u0.ec] 79 (0, 0)) := (by
    have hq := (kset_at (i := 5) (v := .slice u0.ea u0.e.length u0.ec) (kset_at (i := 4) (v := .slice u0.t.a u0.t.ks.length u0.t.cap) (kset_at (i := 3) (v := .slice u0.t.da u0.t.ds.length u0.t.dc) (kset_at (i := 2) (v := .int .i64 u0.t.v) (kset_at (i := 1) (v := .int .i64 u0.t.k) (kset_at (i := 0) (v := .bool t.b) BR.out))))))
    simp only [List.setIfInBounds_toArray, List.set_cons_succ, List.set_cons_zero] at hq
    exact hq)
  have gWF : Gw w ((((((V1.setCell ⟨w.heap.size + 1, 0, none⟩ (.bool t.b)).setCell ⟨w.heap.size + 1, 1, none⟩ (.int .i64 u0.t.k)).setCell ⟨w.heap.size + 1, 2, none⟩ (.int .i64 u0.t.v)).setCell ⟨w.heap.size + 1, 3, none⟩ (.slice u0.t.da u0.t.ds.length u0.t.dc)).setCell ⟨w.heap.size + 1, 4, none⟩ (.slice u0.t.a u0.t.ks.length u0.t.cap)).setCell ⟨w.heap.size + 1, 5, none⟩ (.slice u0.ea u0.e.length u0.ec)) := (Below.setCell (Below.setCell (Below.setCell (Below.setCell (Below.setCell (Below.setCell GV.out (by simp <;> omega) _) (by simp <;> omega) _) (by simp <;> omega) _) (by simp <;> omega) _) (by simp <;> omega) _) (by simp <;> omega) _)
  have far : ∀ c, w.heap.size + 3 ≤ c → ((((((V1.setCell ⟨w.heap.size + 1, 0, none⟩ (.bool t.b)).setCell ⟨w.heap.size + 1, 1, none⟩ (.int .i64 u0.t.k)).setCell ⟨w.heap.size + 1, 2, none⟩ (.int .i64 u0.t.v)).setCell ⟨w.heap.size + 1, 3, none⟩ (.slice u0.t.da u0.t.ds.length u0.t.dc)).setCell ⟨w.heap.size + 1, 4, none⟩ (.slice u0.t.a u0.t.ks.length u0.t.cap)).setCell ⟨w.heap.size + 1, 5, none⟩ (.slice u0.ea u0.e.length u0.ec)).heap[c]? = V1.heap[c]? := fun c hc => by
    rw [Below.heap_setCell _ _ _ _ (by simp <;> omega), Below.heap_setCell _ _ _ _ (by simp <;> omega), Below.heap_setCell _ _ _ _ (by simp <;> omega), Below.heap_setCell _ _ _ _ (by simp <;> omega), Below.heap_setCell _ _ _ _ (by simp <;> omega), Below.heap_setCell _ _ _ _ (by simp <;> omega)]
  generalize ((((((V1.setCell ⟨w.heap.size + 1, 0, none⟩ (.bool t.b)).setCell ⟨w.heap.size + 1, 1, none⟩ (.int .i64 u0.t.k)).setCell ⟨w.heap.size + 1, 2, none⟩ (.int .i64 u0.t.v)).setCell ⟨w.heap.size + 1, 3, none⟩ (.slice u0.t.da u0.t.ds.length u0.t.dc)).setCell ⟨w.heap.size + 1, 4, none⟩ (.slice u0.t.a u0.t.ks.length u0.t.cap)).setCell ⟨w.heap.size + 1, 5, none⟩ (.slice u0.ea u0.e.length u0.ec)) = WF at *
  have e0 : WF.cell? ⟨w.heap.size + 1, 0, none⟩ = some (.bool t.b) := cell_of_row _ _ 0 _ _ _ BRF
  have e1 : WF.cell? ⟨w.heap.size + 1, 1, none⟩ = some (.int .i64 u0.t.k) := cell_of_row _ _ 1 _ _ _ BRF
  have e2 : WF.cell? ⟨w.heap.size + 1, 2, none⟩ = some (.int .i64 u0.t.v) := cell_of_row _ _ 2 _ _ _ BRF
  have e3 : WF.cell? ⟨w.heap.size + 1, 3, none⟩ = some (.slice u0.t.da u0.t.ds.length u0.t.dc) := cell_of_row _ _ 3 _ _ _ BRF
  have e4 : WF.cell? ⟨w.heap.size + 1, 4, none⟩ = some (.slice u0.t.a u0.t.ks.length u0.t.cap) := cell_of_row _ _ 4 _ _ _ BRF
  have e5 : WF.cell? ⟨w.heap.size + 1, 5, none⟩ = some (.slice u0.ea u0.e.length u0.ec) := cell_of_row _ _ 5 _ _ _ BRF
  refine bodyPost_ret (v := .agg #[.bool t.b, .int .i64 u0.t.k, .int .i64 u0.t.v, .slice u0.t.da u0.t.ds.length u0.t.dc, .slice u0.t.a u0.t.ks.length u0.t.cap, .slice u0.ea u0.e.length u0.ec]) (by simp [results, Tryd.results71, go_sem, e0, e1, e2, e3, e4, e5]) rfl ⟨⟨t.b, u0⟩, rfl, ?_, ?_, gWF⟩
  · show (t.b, u0.pu) = (t.b, t.c.pu)
    rw [HU0.out]
  · exact LTh.new_mk (gNew.same clFr NU0.out fun c hc => far c (by have := (NU0.out.2.2 c hc).1; have := S0.out; omega)) (by have := S0.out; omega)

set_option maxHeartbeats 1000000 in
theorem laws_toThunkS (ks : List LTh) (w : World) (a : Option Addr) (cap : Nat) (h : thSl w a cap ks) (hs : sm LTh.sz ks ≤ 1048576) :
    Calls Tryd.prog 33 #[.slice a ks.length cap] w (ToLThS w ks) := by
  have hl : ks.length ≤ 1048576 := Nat.le_trans (sm_ge LTh.sz ks) hs
  obtain ⟨_, _, hrow⟩ := h
  obtain ⟨i0, hi, hz0, hz1, hz2⟩ := info_parts (P := Tryd.prog) (e := 79) (z := .agg #[.bool false, .int .i64 0, .int .i64 0, .slice none 0 0, .slice none 0 0, .slice none 0 0]) (size := 6) (bytes := 96) (by kernel_rfl)
  have hmk : ∀ W : World, (Instr.makeSlice 46 (.int .i64 (ks.length : Int)) (.int .i64 (ks.length : Int))).run Tryd.prog W = .ok (.slice (some ⟨W.heap.size, 0, none⟩) ks.length ks.length) (W.alloc (.cells (madeCells #[.bool false, .int .i64 0, .int .i64 0, .slice none 0 0, .slice none 0 0, .slice none 0 0] (ks.length * 6)) 79)) := fun W => by
    have hr := run_make (P := Tryd.prog) W 46 79 i0 _ Tryd.underlying46 hi hz0 .i64 .i64 (ks.length : Int) (ks.length : Int) (by omega) (Int.le_refl _) (by rw [hz2]; omega) (by omega)
    rw [Int.toNat_natCast, hz1] at hr
    exact hr
  have HI := Lib.hid hi
  clear hi hz0 hz1 hz2
  go_enter Tryd.func33, Tryd.ntmps33
  go_wp2_with fail
  have hgw0 : Gw w (w.alloc (.cells (madeCells #[.bool false, .int .i64 0, .int .i64 0, .slice none 0 0, .slice none 0 0, .slice none 0 0] (ks.length * 6)) 79)) := (Gw.refl w).alloc _
  go_loopw [4] (fun i wr => ∃ us : List LTh, i = .int .i64 us.length ∧ us.map LTh.pu = (ks.take us.length).map LTh.pu ∧ gFill 6 thE thOk thB wr w.heap.size ks.length us ∧ Gw w wr) (fun i _ => ks.length - (intOf i).toNat)
  case atStart => exact ⟨[], rfl, rfl, gFill.start _ _ _ ⟨_, _, heap_alloc_new _ _, by rw [size_madeCells]⟩, hgw0⟩
  case round =>
    obtain ⟨us, rfl, hty, hfill, hg⟩ := hrel
    have HT := Lib.hid hty
    have HF := Lib.hid hfill
    have hj : us.length ≤ ks.length := hfill.1
    clear hty hfill hgw0 HI hmk
    by_cases hlt : us.length < ks.length
    · have hrow' := hrow.resolve_left (fun e => by subst e; simp at hlt)
      obtain ⟨b, o, rfl, hr⟩ := hrow'
      obtain ⟨c0, c1, c2, c3, c4, c5, hk⟩ := thRow_get (hr.grow thLen thGr hg) us.length hlt
      have hsm := sm_mem LTh.sz (List.getElem_mem hlt)
      clear hrow
      go_wp2_with fail
      refine (laws_toThunk ks[us.length] _ hk (by omega)).mono ?_
      rintro e w1 ⟨u, rfl, hu, hnew, hg1⟩
      have HU := Lib.hid hu
      have HN := Lib.hid hnew
      clear hu hnew c0 c1 c2 c3 c4 c5
      have hF1 := HF.out.grow thLen thGr hg1
      obtain ⟨v0, x0⟩ := hF1.room hlt 0 (by omega)
      obtain ⟨v1, x1⟩ := hF1.room hlt 1 (by omega)
      obtain ⟨v2, x2⟩ := hF1.room hlt 2 (by omega)
      obtain ⟨v3, x3⟩ := hF1.room hlt 3 (by omega)
      obtain ⟨v4, x4⟩ := hF1.room hlt 4 (by omega)
      obtain ⟨v5, x5⟩ := hF1.room hlt 5 (by omega)
      rw [Nat.add_zero] at x0
      have y0 := hF1.free (us.length * 6)
      have y1 := hF1.free (us.length * 6 + 1)
      have y2 := hF1.free (us.length * 6 + 2)
      have y3 := hF1.free (us.length * 6 + 3)
      have y4 := hF1.free (us.length * 6 + 4)
      have y5 := hF1.free (us.length * 6 + 5)
      have HF1 := Lib.hid hF1
      clear hF1
      go_wp2_with fail
      go_roundw
      case rel =>
        have hl1 : us.length + 1 = (us ++ [u]).length := by simp
        refine ⟨us ++ [u], by rw [← hl1]; go_num, ?_, ?_, ?_⟩
        · rw [← hl1, List.take_succ_eq_append_getElem hlt, List.map_append, List.map_append, HT.out]; simp [HU.out]
        · have := HF1.out.put thLen thFr hlt HN.out (fun b hb => ((HF.out.2.2.2.2 b hb).2).lt) HF.out.lt
          exact this
        · exact (Below.setCell (Below.setCell (Below.setCell (Below.setCell (Below.setCell (Below.setCell (hg.trans hg1) (by simp) _) (by simp) _) (by simp) _) (by simp) _) (by simp) _) (by simp) _)
      case measure => simp [intOf]; omega
    · have hall : us.length = ks.length := by omega
      have HA := Lib.hid hall
      clear hall
      have hdone := HF.out.done (cap := ks.length) (B := w.heap.size) hj (by unfold maxLen; omega) (Nat.le_refl _)
      have HD := Lib.hid hdone
      clear hdone
      go_wp2_with fail
      go_ret
      exact ⟨us, _, ks.length, ret_sl HA.out.symm, by rw [HT.out, HA.out, List.take_length], HD.out, hg⟩

theorem LNd.new_mk {w : World} {B : Nat} {B0 B1 B2 : Nat} {c : LCl} {sa : Option Addr} {sc : Nat} {s : List LFr} {ha : Option Addr} {hc : Nat} {h : List LTh} (n0 : gNew clOk clB B0 w c) (n1 : gNewSl 8 frE frOk frB B1 w sa sc s) (n2 : gNewSl 6 thE thOk thB B2 w ha hc h) (m0 : ∀ b ∈ clB c, b < B1) (m1 : ∀ b ∈ nbl frB sa s, b < B2) (l0 : B ≤ B0) (l1 : B0 ≤ B1) (l2 : B1 ≤ B2) : LNd.New B w ⟨c, sa, sc, s, ha, hc, h⟩ := by
  refine ⟨⟨n0.1, n1.1, n2.1⟩, List.nodup_append.2 ⟨n0.2.1, List.nodup_append.2 ⟨n1.2.1, n2.2.1, fun x hx y hy e => ?_⟩, fun x hx y hy e => ?_⟩, fun b hb => ?_⟩
  · subst e
    have := m1 x hx
    have := (n2.2.2 x hy).1
    omega
  · subst e
    have := m0 x hx
    rcases List.mem_append.1 hy with hy | hy
    · have := (n1.2.2 x hy).1
      omega
    · have := (n2.2.2 x hy).1
      omega
  · rcases List.mem_append.1 hb with hb | hb
    · exact ⟨Nat.le_trans l0 (n0.2.2 b hb).1, (n0.2.2 b hb).2⟩
    · rcases List.mem_append.1 hb with hb | hb
      · exact ⟨Nat.le_trans (Nat.le_trans l0 l1) (n1.2.2 b hb).1, (n1.2.2 b hb).2⟩
      · exact ⟨Nat.le_trans (Nat.le_trans (Nat.le_trans l0 l1) l2) (n2.2.2 b hb).1, (n2.2.2 b hb).2⟩

def ToLNd (w : World) (t : LNd) (e : Ending) (w' : World) : Prop := ∃ u : LNd, e = .returned u.val ∧ u.pu = t.pu ∧ u.New w.heap.size w' ∧ Gw w w'
def ToLNdS (w : World) (ks : List LNd) (e : Ending) (w' : World) : Prop := ∃ (us : List LNd) (a : Option Addr) (cap : Nat), e = .returned (.slice a us.length cap) ∧ us.map LNd.pu = ks.map LNd.pu ∧ ndNew w.heap.size w' a cap us ∧ Gw w w'
set_option maxRecDepth 100000 in
set_option maxHeartbeats 2000000 in
set_option linter.unusedSimpArgs false in
theorem laws_toNeed (t : LNd) (w : World) (h : ndOk w t) (hs : t.sz ≤ 1048576) : Calls Tryd.prog 10 #[t.val] w (ToLNd w t) := by
  have o_c := Lib.hid (h.1)
  have o_s := Lib.hid (h.2.1)
  have o_h := Lib.hid (h.2.2)
  have z0 := Lib.hid (show t.c.sz ≤ 1048576 by unfold LNd.sz at hs; omega)
  have z1 := Lib.hid (show sm LFr.sz t.s ≤ 1048576 by unfold LNd.sz at hs; omega)
  have z2 := Lib.hid (show sm LTh.sz t.h ≤ 1048576 by unfold LNd.sz at hs; omega)
  clear h hs
  go_enter Tryd.func10, Tryd.ntmps10
  go_wp2_with fail
  have BP0 : (((w.alloc (.cells #[.int .i64 t.c.t.k, .int .i64 t.c.t.v, .slice t.c.t.da t.c.t.ds.length t.c.t.dc, .slice t.c.t.a t.c.t.ks.length t.c.t.cap, .slice t.c.ea t.c.e.length t.c.ec, .slice t.sa t.s.length t.sc, .slice t.ha t.h.length t.hc] 33)).alloc (.cells #[.int .i64 0, .int .i64 0, .slice none 0 0, .slice none 0 0, .slice none 0 0, .slice none 0 0, .slice none 0 0] 48)).alloc (.cells #[.int .i64 0, .int .i64 0, .slice none 0 0, .slice none 0 0, .slice none 0 0, .slice none 0 0, .slice none 0 0] 48)).heap[w.heap.size]? = some (.cells #[.int .i64 t.c.t.k, .int .i64 t.c.t.v, .slice t.c.t.da t.c.t.ds.length t.c.t.dc, .slice t.c.t.a t.c.t.ks.length t.c.t.cap, .slice t.c.ea t.c.e.length t.c.ec, .slice t.sa t.s.length t.sc, .slice t.ha t.h.length t.hc] 33 (0, 0)) := by
    rw [Below.heap_alloc _ _ _ (by simp <;> omega), Below.heap_alloc _ _ _ (by simp)]
    exact heap_alloc_new _ _
  have BR0 : (((w.alloc (.cells #[.int .i64 t.c.t.k, .int .i64 t.c.t.v, .slice t.c.t.da t.c.t.ds.length t.c.t.dc, .slice t.c.t.a t.c.t.ks.length t.c.t.cap, .slice t.c.ea t.c.e.length t.c.ec, .slice t.sa t.s.length t.sc, .slice t.ha t.h.length t.hc] 33)).alloc (.cells #[.int .i64 0, .int .i64 0, .slice none 0 0, .slice none 0 0, .slice none 0 0, .slice none 0 0, .slice none 0 0] 48)).alloc (.cells #[.int .i64 0, .int .i64 0, .slice none 0 0, .slice none 0 0, .slice none 0 0, .slice none 0 0, .slice none 0 0] 48)).heap[w.heap.size + 1]? = some (.cells #[.int .i64 0, .int .i64 0, .slice none 0 0, .slice none 0 0, .slice none 0 0, .slice none 0 0, .slice none 0 0] 48 (0, 0)) := by
    rw [Below.heap_alloc _ _ _ (by simp)]
    exact kheap_at _ _ _ _ rfl (by simp)
  have BO0 : (((w.alloc (.cells #[.int .i64 t.c.t.k, .int .i64 t.c.t.v, .slice t.c.t.da t.c.t.ds.length t.c.t.dc, .slice t.c.t.a t.c.t.ks.length t.c.t.cap, .slice t.c.ea t.c.e.length t.c.ec, .slice t.sa t.s.length t.sc, .slice t.ha t.h.length t.hc] 33)).alloc (.cells #[.int .i64 0, .int .i64 0, .slice none 0 0, .slice none 0 0, .slice none 0 0, .slice none 0 0, .slice none 0 0] 48)).alloc (.cells #[.int .i64 0, .int .i64 0, .slice none 0 0, .slice none 0 0, .slice none 0 0, .slice none 0 0, .slice none 0 0] 48)).heap[w.heap.size + 1 + 1]? = some (.cells #[.int .i64 0, .int .i64 0, .slice none 0 0, .slice none 0 0, .slice none 0 0, .slice none 0 0, .slice none 0 0] 48 (0, 0)) := kheap_at _ _ _ _ rfl (by simp)
  have gW : Gw w (((w.alloc (.cells #[.int .i64 t.c.t.k, .int .i64 t.c.t.v, .slice t.c.t.da t.c.t.ds.length t.c.t.dc, .slice t.c.t.a t.c.t.ks.length t.c.t.cap, .slice t.c.ea t.c.e.length t.c.ec, .slice t.sa t.s.length t.sc, .slice t.ha t.h.length t.hc] 33)).alloc (.cells #[.int .i64 0, .int .i64 0, .slice none 0 0, .slice none 0 0, .slice none 0 0, .slice none 0 0, .slice none 0 0] 48)).alloc (.cells #[.int .i64 0, .int .i64 0, .slice none 0 0, .slice none 0 0, .slice none 0 0, .slice none 0 0, .slice none 0 0] 48)) := (((Gw.refl w).alloc _).alloc _).alloc _
  have sz0 : w.heap.size + 3 ≤ (((w.alloc (.cells #[.int .i64 t.c.t.k, .int .i64 t.c.t.v, .slice t.c.t.da t.c.t.ds.length t.c.t.dc, .slice t.c.t.a t.c.t.ks.length t.c.t.cap, .slice t.c.ea t.c.e.length t.c.ec, .slice t.sa t.s.length t.sc, .slice t.ha t.h.length t.hc] 33)).alloc (.cells #[.int .i64 0, .int .i64 0, .slice none 0 0, .slice none 0 0, .slice none 0 0, .slice none 0 0, .slice none 0 0] 48)).alloc (.cells #[.int .i64 0, .int .i64 0, .slice none 0 0, .slice none 0 0, .slice none 0 0, .slice none 0 0, .slice none 0 0] 48)).heap.size := by simp
  generalize (((w.alloc (.cells #[.int .i64 t.c.t.k, .int .i64 t.c.t.v, .slice t.c.t.da t.c.t.ds.length t.c.t.dc, .slice t.c.t.a t.c.t.ks.length t.c.t.cap, .slice t.c.ea t.c.e.length t.c.ec, .slice t.sa t.s.length t.sc, .slice t.ha t.h.length t.hc] 33)).alloc (.cells #[.int .i64 0, .int .i64 0, .slice none 0 0, .slice none 0 0, .slice none 0 0, .slice none 0 0, .slice none 0 0] 48)).alloc (.cells #[.int .i64 0, .int .i64 0, .slice none 0 0, .slice none 0 0, .slice none 0 0, .slice none 0 0, .slice none 0 0] 48)) = V0 at *
  refine (laws_toClosure t.c _ (clGr _ _ _ o_c.out gW) z0.out).mono ?_
  rintro e w1 ⟨u0, rfl, hu, nu, hg⟩
  have HU0 := Lib.hid hu
  have BP1 := (hg.block _ (by omega)).trans BP0
  have BO1 := (hg.block _ (by omega)).trans BO0
  have BR1 := (hg.block _ (by omega)).trans BR0
  have gV1 := gW.trans hg
  have S0 := Lib.hid (show w.heap.size + 3 ≤ V0.heap.size ∧ V0.heap.size ≤ w1.heap.size from ⟨sz0, hg.size⟩)
  have NU0 := Lib.hid nu
  have HB0 := Lib.hid (fun b (hb : b ∈ clB u0) => (nu.2.2 b hb).2.lt)
  have p5 : w1.cell? ⟨w.heap.size, 5, none⟩ = some (.slice t.sa t.s.length t.sc) := cell_of_row _ _ 5 _ _ _ BP1
  have q0 : w1.cell? ⟨w.heap.size + 1 + 1, 0, none⟩ = some (.int .i64 0) := cell_of_row _ _ 0 _ _ _ BO1
  have q1 : w1.cell? ⟨w.heap.size + 1 + 1, 1, none⟩ = some (.int .i64 0) := cell_of_row _ _ 1 _ _ _ BO1
  have q2 : w1.cell? ⟨w.heap.size + 1 + 1, 2, none⟩ = some (.slice none 0 0) := cell_of_row _ _ 2 _ _ _ BO1
  have q3 : w1.cell? ⟨w.heap.size + 1 + 1, 3, none⟩ = some (.slice none 0 0) := cell_of_row _ _ 3 _ _ _ BO1
  have q4 : w1.cell? ⟨w.heap.size + 1 + 1, 4, none⟩ = some (.slice none 0 0) := cell_of_row _ _ 4 _ _ _ BO1
  have x0 : w1.frozen? ⟨w.heap.size + 1 + 1, 0, none⟩ = false := by simp [World.frozen?, BO1]
  have x1 : w1.frozen? ⟨w.heap.size + 1 + 1, 1, none⟩ = false := by simp [World.frozen?, BO1]
  have x2 : w1.frozen? ⟨w.heap.size + 1 + 1, 2, none⟩ = false := by simp [World.frozen?, BO1]
  have x3 : w1.frozen? ⟨w.heap.size + 1 + 1, 3, none⟩ = false := by simp [World.frozen?, BO1]
  have x4 : w1.frozen? ⟨w.heap.size + 1 + 1, 4, none⟩ = false := by simp [World.frozen?, BO1]
  have BP := Lib.hid BP1
  have BO := Lib.hid BO1
  have BR := Lib.hid BR1
  have GV := Lib.hid gV1
  clear nu hg sz0 gW BP0 BO0 BR0 BP1 BO1 BR1 gV1 hu
  go_wp2_with fail
  clear p5 q0 q1 q2 q3 q4 x0 x1 x2 x3 x4
  have BP1 : (((((w1.setCell ⟨w.heap.size + 1 + 1, 0, none⟩ (.int .i64 u0.t.k)).setCell ⟨w.heap.size + 1 + 1, 1, none⟩ (.int .i64 u0.t.v)).setCell ⟨w.heap.size + 1 + 1, 2, none⟩ (.slice u0.t.da u0.t.ds.length u0.t.dc)).setCell ⟨w.heap.size + 1 + 1, 3, none⟩ (.slice u0.t.a u0.t.ks.length u0.t.cap)).setCell ⟨w.heap.size + 1 + 1, 4, none⟩ (.slice u0.ea u0.e.length u0.ec)).heap[w.heap.size]? = some (.cells #[.int .i64 t.c.t.k, .int .i64 t.c.t.v, .slice t.c.t.da t.c.t.ds.length t.c.t.dc, .slice t.c.t.a t.c.t.ks.length t.c.t.cap, .slice t.c.ea t.c.e.length t.c.ec, .slice t.sa t.s.length t.sc, .slice t.ha t.h.length t.hc] 33 (0, 0)) := by
    rw [Below.heap_setCell _ _ _ _ (by simp <;> omega), Below.heap_setCell _ _ _ _ (by simp <;> omega), Below.heap_setCell _ _ _ _ (by simp <;> omega), Below.heap_setCell _ _ _ _ (by simp <;> omega), Below.heap_setCell _ _ _ _ (by simp <;> omega)]
    exact BP.out
  have BR1 : (((((w1.setCell ⟨w.heap.size + 1 + 1, 0, none⟩ (.int .i64 u0.t.k)).setCell ⟨w.heap.size + 1 + 1, 1, none⟩ (.int .i64 u0.t.v)).setCell ⟨w.heap.size + 1 + 1, 2, none⟩ (.slice u0.t.da u0.t.ds.length u0.t.dc)).setCell ⟨w.heap.size + 1 + 1, 3, none⟩ (.slice u0.t.a u0.t.ks.length u0.t.cap)).setCell ⟨w.heap.size + 1 + 1, 4, none⟩ (.slice u0.ea u0.e.length u0.ec)).heap[w.heap.size + 1]? = some (.cells #[.int .i64 0, .int .i64 0, .slice none 0 0, .slice none 0 0, .slice none 0 0, .slice none 0 0, .slice none 0 0] 48 (0, 0)) := by
    rw [Below.heap_setCell _ _ _ _ (by simp <;> omega), Below.heap_setCell _ _ _ _ (by simp <;> omega), Below.heap_setCell _ _ _ _ (by simp <;> omega), Below.heap_setCell _ _ _ _ (by simp <;> omega), Below.heap_setCell _ _ _ _ (by simp <;> omega)]
    exact BR.out
  have BO1 : (((((w1.setCell ⟨w.heap.size + 1 + 1, 0, none⟩ (.int .i64 u0.t.k)).setCell ⟨w.heap.size + 1 + 1, 1, none⟩ (.int .i64 u0.t.v)).setCell ⟨w.heap.size + 1 + 1, 2, none⟩ (.slice u0.t.da u0.t.ds.length u0.t.dc)).setCell ⟨w.heap.size + 1 + 1, 3, none⟩ (.slice u0.t.a u0.t.ks.length u0.t.cap)).setCell ⟨w.heap.size + 1 + 1, 4, none⟩ (.slice u0.ea u0.e.length u0.ec)).heap[w.heap.size + 1 + 1]? = some (.cells #[.int .i64 u0.t.k, .int .i64 u0.t.v, .slice u0.t.da u0.t.ds.length u0.t.dc, .slice u0.t.a u0.t.ks.length u0.t.cap, .slice u0.ea u0.e.length u0.ec, .slice none 0 0, .slice none 0 0] 48 (0, 0)) := (by
    have hq := (kset_at (i := 4) (v := .slice u0.ea u0.e.length u0.ec) (kset_at (i := 3) (v := .slice u0.t.a u0.t.ks.length u0.t.cap) (kset_at (i := 2) (v := .slice u0.t.da u0.t.ds.length u0.t.dc) (kset_at (i := 1) (v := .int .i64 u0.t.v) (kset_at (i := 0) (v := .int .i64 u0.t.k) BO.out)))))
    simp only [List.setIfInBounds_toArray, List.set_cons_succ, List.set_cons_zero] at hq
    exact hq)
  have gW : Gw w (((((w1.setCell ⟨w.heap.size + 1 + 1, 0, none⟩ (.int .i64 u0.t.k)).setCell ⟨w.heap.size + 1 + 1, 1, none⟩ (.int .i64 u0.t.v)).setCell ⟨w.heap.size + 1 + 1, 2, none⟩ (.slice u0.t.da u0.t.ds.length u0.t.dc)).setCell ⟨w.heap.size + 1 + 1, 3, none⟩ (.slice u0.t.a u0.t.ks.length u0.t.cap)).setCell ⟨w.heap.size + 1 + 1, 4, none⟩ (.slice u0.ea u0.e.length u0.ec)) := (Below.setCell (Below.setCell (Below.setCell (Below.setCell (Below.setCell GV.out (by simp <;> omega) _) (by simp <;> omega) _) (by simp <;> omega) _) (by simp <;> omega) _) (by simp <;> omega) _)
  have sz0 : w.heap.size + 3 ≤ (((((w1.setCell ⟨w.heap.size + 1 + 1, 0, none⟩ (.int .i64 u0.t.k)).setCell ⟨w.heap.size + 1 + 1, 1, none⟩ (.int .i64 u0.t.v)).setCell ⟨w.heap.size + 1 + 1, 2, none⟩ (.slice u0.t.da u0.t.ds.length u0.t.dc)).setCell ⟨w.heap.size + 1 + 1, 3, none⟩ (.slice u0.t.a u0.t.ks.length u0.t.cap)).setCell ⟨w.heap.size + 1 + 1, 4, none⟩ (.slice u0.ea u0.e.length u0.ec)).heap.size := by have := S0.out; simp [World.setCell]; omega
  have szE := Lib.hid (show (((((w1.setCell ⟨w.heap.size + 1 + 1, 0, none⟩ (.int .i64 u0.t.k)).setCell ⟨w.heap.size + 1 + 1, 1, none⟩ (.int .i64 u0.t.v)).setCell ⟨w.heap.size + 1 + 1, 2, none⟩ (.slice u0.t.da u0.t.ds.length u0.t.dc)).setCell ⟨w.heap.size + 1 + 1, 3, none⟩ (.slice u0.t.a u0.t.ks.length u0.t.cap)).setCell ⟨w.heap.size + 1 + 1, 4, none⟩ (.slice u0.ea u0.e.length u0.ec)).heap.size = w1.heap.size by simp [World.setCell])
  have NN0 := gNew.same clFr NU0.out (w' := (((((w1.setCell ⟨w.heap.size + 1 + 1, 0, none⟩ (.int .i64 u0.t.k)).setCell ⟨w.heap.size + 1 + 1, 1, none⟩ (.int .i64 u0.t.v)).setCell ⟨w.heap.size + 1 + 1, 2, none⟩ (.slice u0.t.da u0.t.ds.length u0.t.dc)).setCell ⟨w.heap.size + 1 + 1, 3, none⟩ (.slice u0.t.a u0.t.ks.length u0.t.cap)).setCell ⟨w.heap.size + 1 + 1, 4, none⟩ (.slice u0.ea u0.e.length u0.ec))) (fun c hc => by
    have := (NU0.out.2.2 c hc).1
    have := S0.out
    rw [Below.heap_setCell _ _ _ _ (by simp <;> omega), Below.heap_setCell _ _ _ _ (by simp <;> omega), Below.heap_setCell _ _ _ _ (by simp <;> omega), Below.heap_setCell _ _ _ _ (by simp <;> omega), Below.heap_setCell _ _ _ _ (by simp <;> omega)])
  clear BP BO BR GV NU0
  generalize (((((w1.setCell ⟨w.heap.size + 1 + 1, 0, none⟩ (.int .i64 u0.t.k)).setCell ⟨w.heap.size + 1 + 1, 1, none⟩ (.int .i64 u0.t.v)).setCell ⟨w.heap.size + 1 + 1, 2, none⟩ (.slice u0.t.da u0.t.ds.length u0.t.dc)).setCell ⟨w.heap.size + 1 + 1, 3, none⟩ (.slice u0.t.a u0.t.ks.length u0.t.cap)).setCell ⟨w.heap.size + 1 + 1, 4, none⟩ (.slice u0.ea u0.e.length u0.ec)) = V1 at *
  have E1 := szE
  clear szE
  refine (laws_toFrameS t.s _ t.sa t.sc (gSl.grow frLen frGr o_s.out gW) (z1.out)).mono ?_
  rintro e w2 ⟨u1, a1, c1, rfl, hu, nu, hg⟩
  have HU1 := Lib.hid hu
  have BP2 := (hg.block _ (by omega)).trans BP1
  have BO2 := (hg.block _ (by omega)).trans BO1
  have BR2 := (hg.block _ (by omega)).trans BR1
  have gV2 := gW.trans hg
  have S1 := Lib.hid (show w.heap.size + 3 ≤ V1.heap.size ∧ V1.heap.size ≤ w2.heap.size from ⟨sz0, hg.size⟩)
  have NU1 := Lib.hid nu
  have HB1 := Lib.hid (fun b (hb : b ∈ nbl frB a1 u1) => (nu.2.2 b hb).2.lt)
  have NU0 := Lib.hid (gNew.grow clGr NN0 hg)
  have p6 : w2.cell? ⟨w.heap.size, 6, none⟩ = some (.slice t.ha t.h.length t.hc) := cell_of_row _ _ 6 _ _ _ BP2
  have q5 : w2.cell? ⟨w.heap.size + 1 + 1, 5, none⟩ = some (.slice none 0 0) := cell_of_row _ _ 5 _ _ _ BO2
  have x5 : w2.frozen? ⟨w.heap.size + 1 + 1, 5, none⟩ = false := by simp [World.frozen?, BO2]
  have BP := Lib.hid BP2
  have BO := Lib.hid BO2
  have BR := Lib.hid BR2
  have GV := Lib.hid gV2
  clear nu hg sz0 gW BP1 BO1 BR1 BP2 BO2 BR2 gV2 hu NN0
  go_wp2_with fail
  clear p6 q5 x5
  have BP2 : (w2.setCell ⟨w.heap.size + 1 + 1, 5, none⟩ (.slice a1 u1.length c1)).heap[w.heap.size]? = some (.cells #[.int .i64 t.c.t.k, .int .i64 t.c.t.v, .slice t.c.t.da t.c.t.ds.length t.c.t.dc, .slice t.c.t.a t.c.t.ks.length t.c.t.cap, .slice t.c.ea t.c.e.length t.c.ec, .slice t.sa t.s.length t.sc, .slice t.ha t.h.length t.hc] 33 (0, 0)) := by
    rw [Below.heap_setCell _ _ _ _ (by simp <;> omega)]
    exact BP.out
  have BR2 : (w2.setCell ⟨w.heap.size + 1 + 1, 5, none⟩ (.slice a1 u1.length c1)).heap[w.heap.size + 1]? = some (.cells #[.int .i64 0, .int .i64 0, .slice none 0 0, .slice none 0 0, .slice none 0 0, .slice none 0 0, .slice none 0 0] 48 (0, 0)) := by
    rw [Below.heap_setCell _ _ _ _ (by simp <;> omega)]
    exact BR.out
  have BO2 : (w2.setCell ⟨w.heap.size + 1 + 1, 5, none⟩ (.slice a1 u1.length c1)).heap[w.heap.size + 1 + 1]? = some (.cells #[.int .i64 u0.t.k, .int .i64 u0.t.v, .slice u0.t.da u0.t.ds.length u0.t.dc, .slice u0.t.a u0.t.ks.length u0.t.cap, .slice u0.ea u0.e.length u0.ec, .slice a1 u1.length c1, .slice none 0 0] 48 (0, 0)) := (by
    have hq := (kset_at (i := 5) (v := .slice a1 u1.length c1) BO.out)
    simp only [List.setIfInBounds_toArray, List.set_cons_succ, List.set_cons_zero] at hq
    exact hq)
  have gW : Gw w (w2.setCell ⟨w.heap.size + 1 + 1, 5, none⟩ (.slice a1 u1.length c1)) := (Below.setCell GV.out (by simp <;> omega) _)
  have sz0 : w.heap.size + 3 ≤ (w2.setCell ⟨w.heap.size + 1 + 1, 5, none⟩ (.slice a1 u1.length c1)).heap.size := by have := S1.out; simp [World.setCell]; omega
  have szE := Lib.hid (show (w2.setCell ⟨w.heap.size + 1 + 1, 5, none⟩ (.slice a1 u1.length c1)).heap.size = w2.heap.size by simp [World.setCell])
  have NN0 := gNew.same clFr NU0.out (w' := (w2.setCell ⟨w.heap.size + 1 + 1, 5, none⟩ (.slice a1 u1.length c1))) (fun c hc => by
    have := (NU0.out.2.2 c hc).1
    have := S0.out
    rw [Below.heap_setCell _ _ _ _ (by simp <;> omega)])
  have NN1 := gNewSl.same (by decide) frLen frFr NU1.out (w' := (w2.setCell ⟨w.heap.size + 1 + 1, 5, none⟩ (.slice a1 u1.length c1))) (fun c hc => by
    have := (NU1.out.2.2 c hc).1
    have := S1.out
    rw [Below.heap_setCell _ _ _ _ (by simp <;> omega)])
  clear BP BO BR GV NU0 NU1
  generalize (w2.setCell ⟨w.heap.size + 1 + 1, 5, none⟩ (.slice a1 u1.length c1)) = V2 at *
  have E2 := szE
  clear szE
  refine (laws_toThunkS t.h _ t.ha t.hc (gSl.grow thLen thGr o_h.out gW) (z2.out)).mono ?_
  rintro e w3 ⟨u2, a2, c2, rfl, hu, nu, hg⟩
  have HU2 := Lib.hid hu
  have BP3 := (hg.block _ (by omega)).trans BP2
  have BO3 := (hg.block _ (by omega)).trans BO2
  have BR3 := (hg.block _ (by omega)).trans BR2
  have gV3 := gW.trans hg
  have S2 := Lib.hid (show w.heap.size + 3 ≤ V2.heap.size ∧ V2.heap.size ≤ w3.heap.size from ⟨sz0, hg.size⟩)
  have NU2 := Lib.hid nu
  have HB2 := Lib.hid (fun b (hb : b ∈ nbl thB a2 u2) => (nu.2.2 b hb).2.lt)
  have NU0 := Lib.hid (gNew.grow clGr NN0 hg)
  have NU1 := Lib.hid (gNewSl.grow frLen frGr NN1 hg)
  have q0 : w3.cell? ⟨w.heap.size + 1 + 1, 0, none⟩ = some (.int .i64 u0.t.k) := cell_of_row _ _ 0 _ _ _ BO3
  have q1 : w3.cell? ⟨w.heap.size + 1 + 1, 1, none⟩ = some (.int .i64 u0.t.v) := cell_of_row _ _ 1 _ _ _ BO3
  have q2 : w3.cell? ⟨w.heap.size + 1 + 1, 2, none⟩ = some (.slice u0.t.da u0.t.ds.length u0.t.dc) := cell_of_row _ _ 2 _ _ _ BO3
  have q3 : w3.cell? ⟨w.heap.size + 1 + 1, 3, none⟩ = some (.slice u0.t.a u0.t.ks.length u0.t.cap) := cell_of_row _ _ 3 _ _ _ BO3
  have q4 : w3.cell? ⟨w.heap.size + 1 + 1, 4, none⟩ = some (.slice u0.ea u0.e.length u0.ec) := cell_of_row _ _ 4 _ _ _ BO3
  have q5 : w3.cell? ⟨w.heap.size + 1 + 1, 5, none⟩ = some (.slice a1 u1.length c1) := cell_of_row _ _ 5 _ _ _ BO3
  have q6 : w3.cell? ⟨w.heap.size + 1 + 1, 6, none⟩ = some (.slice none 0 0) := cell_of_row _ _ 6 _ _ _ BO3
  have x6 : w3.frozen? ⟨w.heap.size + 1 + 1, 6, none⟩ = false := by simp [World.frozen?, BO3]
  have BP := Lib.hid BP3
  have BO := Lib.hid BO3
  have BR := Lib.hid BR3
  have GV := Lib.hid gV3
  clear nu hg sz0 gW BP2 BO2 BR2 BP3 BO3 BR3 gV3 hu NN0 NN1
  go_upto_region 5 with (fail)
  clear  q0 q1 q2 q3 q4 q5 q6 x6
  have BP3 : (w3.setCell ⟨w.heap.size + 1 + 1, 6, none⟩ (.slice a2 u2.length c2)).heap[w.heap.size]? = some (.cells #[.int .i64 t.c.t.k, .int .i64 t.c.t.v, .slice t.c.t.da t.c.t.ds.length t.c.t.dc, .slice t.c.t.a t.c.t.ks.length t.c.t.cap, .slice t.c.ea t.c.e.length t.c.ec, .slice t.sa t.s.length t.sc, .slice t.ha t.h.length t.hc] 33 (0, 0)) := by
    rw [Below.heap_setCell _ _ _ _ (by simp <;> omega)]
    exact BP.out
  have BR3 : (w3.setCell ⟨w.heap.size + 1 + 1, 6, none⟩ (.slice a2 u2.length c2)).heap[w.heap.size + 1]? = some (.cells #[.int .i64 0, .int .i64 0, .slice none 0 0, .slice none 0 0, .slice none 0 0, .slice none 0 0, .slice none 0 0] 48 (0, 0)) := by
    rw [Below.heap_setCell _ _ _ _ (by simp <;> omega)]
    exact BR.out
  have BO3 : (w3.setCell ⟨w.heap.size + 1 + 1, 6, none⟩ (.slice a2 u2.length c2)).heap[w.heap.size + 1 + 1]? = some (.cells #[.int .i64 u0.t.k, .int .i64 u0.t.v, .slice u0.t.da u0.t.ds.length u0.t.dc, .slice u0.t.a u0.t.ks.length u0.t.cap, .slice u0.ea u0.e.length u0.ec, .slice a1 u1.length c1, .slice a2 u2.length c2] 48 (0, 0)) := (by
    have hq := (kset_at (i := 6) (v := .slice a2 u2.length c2) BO.out)
    simp only [List.setIfInBounds_toArray, List.set_cons_succ, List.set_cons_zero] at hq
    exact hq)
  have gW : Gw w (w3.setCell ⟨w.heap.size + 1 + 1, 6, none⟩ (.slice a2 u2.length c2)) := (Below.setCell GV.out (by simp <;> omega) _)
  have sz0 : w.heap.size + 3 ≤ (w3.setCell ⟨w.heap.size + 1 + 1, 6, none⟩ (.slice a2 u2.length c2)).heap.size := by have := S2.out; simp [World.setCell]; omega
  have szE := Lib.hid (show (w3.setCell ⟨w.heap.size + 1 + 1, 6, none⟩ (.slice a2 u2.length c2)).heap.size = w3.heap.size by simp [World.setCell])
  have NN0 := gNew.same clFr NU0.out (w' := (w3.setCell ⟨w.heap.size + 1 + 1, 6, none⟩ (.slice a2 u2.length c2))) (fun c hc => by
    have := (NU0.out.2.2 c hc).1
    have := S0.out
    rw [Below.heap_setCell _ _ _ _ (by simp <;> omega)])
  have NN1 := gNewSl.same (by decide) frLen frFr NU1.out (w' := (w3.setCell ⟨w.heap.size + 1 + 1, 6, none⟩ (.slice a2 u2.length c2))) (fun c hc => by
    have := (NU1.out.2.2 c hc).1
    have := S1.out
    rw [Below.heap_setCell _ _ _ _ (by simp <;> omega)])
  have NN2 := gNewSl.same (by decide) thLen thFr NU2.out (w' := (w3.setCell ⟨w.heap.size + 1 + 1, 6, none⟩ (.slice a2 u2.length c2))) (fun c hc => by
    have := (NU2.out.2.2 c hc).1
    have := S2.out
    rw [Below.heap_setCell _ _ _ _ (by simp <;> omega)])
  clear BP BO BR GV NU0 NU1 NU2
  generalize (w3.setCell ⟨w.heap.size + 1 + 1, 6, none⟩ (.slice a2 u2.length c2)) = V3 at *
  have E3 := szE
  clear szE
  have q0 : V3.cell? ⟨w.heap.size + 1 + 1, 0, none⟩ = some (.int .i64 u0.t.k) := cell_of_row _ _ 0 _ _ _ BO3
  have q1 : V3.cell? ⟨w.heap.size + 1 + 1, 1, none⟩ = some (.int .i64 u0.t.v) := cell_of_row _ _ 1 _ _ _ BO3
  have q2 : V3.cell? ⟨w.heap.size + 1 + 1, 2, none⟩ = some (.slice u0.t.da u0.t.ds.length u0.t.dc) := cell_of_row _ _ 2 _ _ _ BO3
  have q3 : V3.cell? ⟨w.heap.size + 1 + 1, 3, none⟩ = some (.slice u0.t.a u0.t.ks.length u0.t.cap) := cell_of_row _ _ 3 _ _ _ BO3
  have q4 : V3.cell? ⟨w.heap.size + 1 + 1, 4, none⟩ = some (.slice u0.ea u0.e.length u0.ec) := cell_of_row _ _ 4 _ _ _ BO3
  have q5 : V3.cell? ⟨w.heap.size + 1 + 1, 5, none⟩ = some (.slice a1 u1.length c1) := cell_of_row _ _ 5 _ _ _ BO3
  have q6 : V3.cell? ⟨w.heap.size + 1 + 1, 6, none⟩ = some (.slice a2 u2.length c2) := cell_of_row _ _ 6 _ _ _ BO3
  have r0 : V3.cell? ⟨w.heap.size + 1, 0, none⟩ = some (.int .i64 0) := cell_of_row _ _ 0 _ _ _ BR3
  have y0 : V3.frozen? ⟨w.heap.size + 1, 0, none⟩ = false := by simp [World.frozen?, BR3]
  have r1 : V3.cell? ⟨w.heap.size + 1, 1, none⟩ = some (.int .i64 0) := cell_of_row _ _ 1 _ _ _ BR3
  have y1 : V3.frozen? ⟨w.heap.size + 1, 1, none⟩ = false := by simp [World.frozen?, BR3]
  have r2 : V3.cell? ⟨w.heap.size + 1, 2, none⟩ = some (.slice none 0 0) := cell_of_row _ _ 2 _ _ _ BR3
  have y2 : V3.frozen? ⟨w.heap.size + 1, 2, none⟩ = false := by simp [World.frozen?, BR3]
  have r3 : V3.cell? ⟨w.heap.size + 1, 3, none⟩ = some (.slice none 0 0) := cell_of_row _ _ 3 _ _ _ BR3
  have y3 : V3.frozen? ⟨w.heap.size + 1, 3, none⟩ = false := by simp [World.frozen?, BR3]
  have r4 : V3.cell? ⟨w.heap.size + 1, 4, none⟩ = some (.slice none 0 0) := cell_of_row _ _ 4 _ _ _ BR3
  have y4 : V3.frozen? ⟨w.heap.size + 1, 4, none⟩ = false := by simp [World.frozen?, BR3]
  have r5 : V3.cell? ⟨w.heap.size + 1, 5, none⟩ = some (.slice none 0 0) := cell_of_row _ _ 5 _ _ _ BR3
  have y5 : V3.frozen? ⟨w.heap.size + 1, 5, none⟩ = false := by simp [World.frozen?, BR3]
  have r6 : V3.cell? ⟨w.heap.size + 1, 6, none⟩ = some (.slice none 0 0) := cell_of_row _ _ 6 _ _ _ BR3
  have y6 : V3.frozen? ⟨w.heap.size + 1, 6, none⟩ = false := by simp [World.frozen?, BR3]
  have NU0 := Lib.hid NN0
  have NU1 := Lib.hid NN1
  have NU2 := Lib.hid NN2
  have BR := Lib.hid BR3
  have GV := Lib.hid gW
  clear BP3 BO3 BR3 gW sz0 NN0 NN1 NN2
  go_wp2_with fail
  clear q0 r0 y0 q1 r1 y1 q2 r2 y2 q3 r3 y3 q4 r4 y4 q5 r5 y5 q6 r6 y6
  have BRF : (((((((V3.setCell ⟨w.heap.size + 1, 0, none⟩ (.int .i64 u0.t.k)).setCell ⟨w.heap.size + 1, 1, none⟩ (.int .i64 u0.t.v)).setCell ⟨w.heap.size + 1, 2, none⟩ (.slice u0.t.da u0.t.ds.length u0.t.dc)).setCell ⟨w.heap.size + 1, 3, none⟩ (.slice u0.t.a u0.t.ks.length u0.t.cap)).setCell ⟨w.heap.size + 1, 4, none⟩ (.slice u0.ea u0.e.length u0.ec)).setCell ⟨w.heap.size + 1, 5, none⟩ (.slice a1 u1.length c1)).setCell ⟨w.heap.size + 1, 6, none⟩ (.slice a2 u2.length c2)).heap[w.heap.size + 1]? = some (.cells #[.int .i64 u0.t.k, .int .i64 u0.t.v, .slice u0.t.da u0.t.ds.length u0.t.dc, .slice u0.t.a u0.t.ks.length u0.t.cap, .slice u0.ea u0.e.length u0.ec, .slice a1 u1.length c1, .slice a2 u2.length c2] 48 (0, 0)) := (by
    have hq := (kset_at (i := 6) (v := .slice a2 u2.length c2) (kset_at (i := 5) (v := .slice a1 u1.length c1) (kset_at (i := 4) (v := .slice u0.ea u0.e.length u0.ec) (kset_at (i := 3) (v := .slice u0.t.a u0.t.ks.length u0.t.cap) (kset_at (i := 2) (v := .slice u0.t.da u0.t.ds.length u0.t.dc) (kset_at (i := 1) (v := .int .i64 u0.t.v) (kset_at (i := 0) (v := .int .i64 u0.t.k) BR.out)))))))
    simp only [List.setIfInBounds_toArray, List.set_cons_succ, List.set_cons_zero] at hq
    exact hq)
  have gWF : Gw w (((((((V3.setCell ⟨w.heap.size + 1, 0, none⟩ (.int .i64 u0.t.k)).setCell ⟨w.heap.size + 1, 1, none⟩ (.int .i64 u0.t.v)).setCell ⟨w.heap.size + 1, 2, none⟩ (.slice u0.t.da u0.t.ds.length u0.t.dc)).setCell ⟨w.heap.size + 1, 3, none⟩ (.slice u0.t.a u0.t.ks.length u0.t.cap)).setCell ⟨w.heap.size + 1, 4, none⟩ (.slice u0.ea u0.e.length u0.ec)).setCell ⟨w.heap.size + 1, 5, none⟩ (.slice a1 u1.length c1)).setCell ⟨w.heap.size + 1, 6, none⟩ (.slice a2 u2.length c2)) := (Below.setCell (Below.setCell (Below.setCell (Below.setCell (Below.setCell (Below.setCell (Below.setCell GV.out (by simp <;> omega) _) (by simp <;> omega) _) (by simp <;> omega) _) (by simp <;> omega) _) (by simp <;> omega) _) (by simp <;> omega) _) (by simp <;> omega) _)
  have far : ∀ c, w.heap.size + 3 ≤ c → (((((((V3.setCell ⟨w.heap.size + 1, 0, none⟩ (.int .i64 u0.t.k)).setCell ⟨w.heap.size + 1, 1, none⟩ (.int .i64 u0.t.v)).setCell ⟨w.heap.size + 1, 2, none⟩ (.slice u0.t.da u0.t.ds.length u0.t.dc)).setCell ⟨w.heap.size + 1, 3, none⟩ (.slice u0.t.a u0.t.ks.length u0.t.cap)).setCell ⟨w.heap.size + 1, 4, none⟩ (.slice u0.ea u0.e.length u0.ec)).setCell ⟨w.heap.size + 1, 5, none⟩ (.slice a1 u1.length c1)).setCell ⟨w.heap.size + 1, 6, none⟩ (.slice a2 u2.length c2)).heap[c]? = V3.heap[c]? := fun c hc => by
    rw [Below.heap_setCell _ _ _ _ (by simp <;> omega), Below.heap_setCell _ _ _ _ (by simp <;> omega), Below.heap_setCell _ _ _ _ (by simp <;> omega), Below.heap_setCell _ _ _ _ (by simp <;> omega), Below.heap_setCell _ _ _ _ (by simp <;> omega), Below.heap_setCell _ _ _ _ (by simp <;> omega), Below.heap_setCell _ _ _ _ (by simp <;> omega)]
  generalize (((((((V3.setCell ⟨w.heap.size + 1, 0, none⟩ (.int .i64 u0.t.k)).setCell ⟨w.heap.size + 1, 1, none⟩ (.int .i64 u0.t.v)).setCell ⟨w.heap.size + 1, 2, none⟩ (.slice u0.t.da u0.t.ds.length u0.t.dc)).setCell ⟨w.heap.size + 1, 3, none⟩ (.slice u0.t.a u0.t.ks.length u0.t.cap)).setCell ⟨w.heap.size + 1, 4, none⟩ (.slice u0.ea u0.e.length u0.ec)).setCell ⟨w.heap.size + 1, 5, none⟩ (.slice a1 u1.length c1)).setCell ⟨w.heap.size + 1, 6, none⟩ (.slice a2 u2.length c2)) = WF at *
  have e0 : WF.cell? ⟨w.heap.size + 1, 0, none⟩ = some (.int .i64 u0.t.k) := cell_of_row _ _ 0 _ _ _ BRF
  have e1 : WF.cell? ⟨w.heap.size + 1, 1, none⟩ = some (.int .i64 u0.t.v) := cell_of_row _ _ 1 _ _ _ BRF
  have e2 : WF.cell? ⟨w.heap.size + 1, 2, none⟩ = some (.slice u0.t.da u0.t.ds.length u0.t.dc) := cell_of_row _ _ 2 _ _ _ BRF
  have e3 : WF.cell? ⟨w.heap.size + 1, 3, none⟩ = some (.slice u0.t.a u0.t.ks.length u0.t.cap) := cell_of_row _ _ 3 _ _ _ BRF
  have e4 : WF.cell? ⟨w.heap.size + 1, 4, none⟩ = some (.slice u0.ea u0.e.length u0.ec) := cell_of_row _ _ 4 _ _ _ BRF
  have e5 : WF.cell? ⟨w.heap.size + 1, 5, none⟩ = some (.slice a1 u1.length c1) := cell_of_row _ _ 5 _ _ _ BRF
  have e6 : WF.cell? ⟨w.heap.size + 1, 6, none⟩ = some (.slice a2 u2.length c2) := cell_of_row _ _ 6 _ _ _ BRF
  refine bodyPost_ret (v := .agg #[.int .i64 u0.t.k, .int .i64 u0.t.v, .slice u0.t.da u0.t.ds.length u0.t.dc, .slice u0.t.a u0.t.ks.length u0.t.cap, .slice u0.ea u0.e.length u0.ec, .slice a1 u1.length c1, .slice a2 u2.length c2]) (by simp [results, Tryd.results10, go_sem, e0, e1, e2, e3, e4, e5, e6]) rfl ⟨⟨u0, a1, c1, u1, a2, c2, u2⟩, rfl, ?_, ?_, gWF⟩
  · show (u0.pu, u1.map LFr.pu, u2.map LTh.pu) = (t.c.pu, t.s.map LFr.pu, t.h.map LTh.pu)
    rw [HU0.out, HU1.out, HU2.out]
  · exact LNd.new_mk (gNew.same clFr NU0.out fun c hc => far c (by have := (NU0.out.2.2 c hc).1; have := S0.out; omega)) (gNewSl.same (by decide) frLen frFr NU1.out fun c hc => far c (by have := (NU1.out.2.2 c hc).1; have := S1.out; omega)) (gNewSl.same (by decide) thLen thFr NU2.out fun c hc => far c (by have := (NU2.out.2.2 c hc).1; have := S2.out; omega)) (fun b hb => by have := HB0.out b hb; have := E1.out; omega) (fun b hb => by have := HB1.out b hb; have := E2.out; omega) (by have := S0.out; omega) (by have := S0.out; have := E1.out; omega) (by have := S1.out; have := E2.out; omega)

end Go.Proofs.YtkpbiifikkbaeaaDoor.Con
