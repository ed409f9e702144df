/-
  The laws' own functions toDef, toDefS, toProgram: copies in blocks of their own. Condition: the program was counted.
-/
import Derived.Test.YtbbldkhlclfmkaaDf
import Derived.Test.YtbbldkhlclfmkaaTmTo
import Derived.Test.YtbbldkhlclfmkaaDaTo
import Derived.Deep.Cut
namespace Go.Proofs.Ytbbldkhlclfmkaa.Con
open Go.RowKit
set_option linter.unusedVariables false

abbrev LF.New (B : Nat) (w : World) (f : LF) : Prop := gNew dfOk dfB B w f
abbrev dfNew (B : Nat) (w : World) (a : Option Addr) (cap : Nat) (fs : List LF) : Prop := gNewSl 12 dfE dfOk dfB B w a cap fs
def ToF (w : World) (f : LF) (e : Ending) (w' : World) : Prop := ∃ g : LF, e = .returned g.val ∧ g.df = f.df ∧ g.New w.heap.size w' ∧ Gw w w'
def ToFS (w : World) (fs : List LF) (e : Ending) (w' : World) : Prop := ∃ (gs : List LF) (a : Option Addr) (cap : Nat), e = .returned (.slice a gs.length cap) ∧ gs.map LF.df = fs.map LF.df ∧ dfNew w.heap.size w' a cap gs ∧ Gw w w'

theorem LF.new_mk {B B1 : Nat} {w : World} {n : ByteArray} {t : LT} {u : LM} (hn : n.size ≤ maxLen) (ht : t.New B w) (hu : LM.New B1 w u) (h1 : ∀ b ∈ t.bl, b < B1) (hB : B ≤ B1) : LF.New B w ⟨n, t, u⟩ := by
  refine ⟨⟨hn, ht.1, hu.1⟩, List.nodup_append.2 ⟨ht.2.1, hu.2.1, fun x hx y hy e => ?_⟩, fun b hb => ?_⟩
  · subst e
    have := h1 x hx
    have := (hu.2.2 x hy).1
    omega
  · rcases List.mem_append.1 hb with hb | hb
    · exact ht.2.2 b hb
    · have := hu.2.2 b hb
      exact ⟨by omega, this.2⟩

set_option maxRecDepth 100000 in
set_option maxHeartbeats 2000000 in
theorem laws_toDef (f : LF) (w : World) (h : dfOk w f) (hs : f.sz ≤ 1048576) : Calls Try.prog 96 #[f.val] w (ToF w f) := by
  have hn := h.1
  have hT := Lib.hid h.2.1
  have hU := Lib.hid h.2.2
  have z1 : f.t.sz ≤ 1048576 := by unfold LF.sz at hs; omega
  have z2 : f.u.sz ≤ 1048576 := by unfold LF.sz at hs; omega
  clear h hs
  go_enter Try.func96, Try.ntmps96
  go_wp2_with fail
  have BP0 : (((w.alloc (.cells #[.string f.n, .int .i64 f.t.k, .string f.t.n, .slice f.t.a f.t.ks.length f.t.cap, .int .i64 f.u.k, .int .i64 f.u.m, .string f.u.n, .int .i64 f.u.t.k, .string f.u.t.n, .slice f.u.t.a f.u.t.ks.length f.u.t.cap, .slice f.u.na f.u.ns.length f.u.nc, .slice f.u.a f.u.ks.length f.u.cap] 143)).alloc (.cells #[.string ⟨#[]⟩, .int .i64 0, .string ⟨#[]⟩, .slice none 0 0, .int .i64 0, .int .i64 0, .string ⟨#[]⟩, .int .i64 0, .string ⟨#[]⟩, .slice none 0 0, .slice none 0 0, .slice none 0 0] 97)).alloc (.cells #[.string f.n, .int .i64 0, .string ⟨#[]⟩, .slice none 0 0, .int .i64 0, .int .i64 0, .string ⟨#[]⟩, .int .i64 0, .string ⟨#[]⟩, .slice none 0 0, .slice none 0 0, .slice none 0 0] 97)).heap[w.heap.size]? = some (.cells #[.string f.n, .int .i64 f.t.k, .string f.t.n, .slice f.t.a f.t.ks.length f.t.cap, .int .i64 f.u.k, .int .i64 f.u.m, .string f.u.n, .int .i64 f.u.t.k, .string f.u.t.n, .slice f.u.t.a f.u.t.ks.length f.u.t.cap, .slice f.u.na f.u.ns.length f.u.nc, .slice f.u.a f.u.ks.length f.u.cap] 143 (0, 0)) := by
    rw [Below.heap_alloc _ _ _ (by simp <;> omega), Below.heap_alloc _ _ _ (by simp)]
    exact heap_alloc_new _ _
  have BR0 : (((w.alloc (.cells #[.string f.n, .int .i64 f.t.k, .string f.t.n, .slice f.t.a f.t.ks.length f.t.cap, .int .i64 f.u.k, .int .i64 f.u.m, .string f.u.n, .int .i64 f.u.t.k, .string f.u.t.n, .slice f.u.t.a f.u.t.ks.length f.u.t.cap, .slice f.u.na f.u.ns.length f.u.nc, .slice f.u.a f.u.ks.length f.u.cap] 143)).alloc (.cells #[.string ⟨#[]⟩, .int .i64 0, .string ⟨#[]⟩, .slice none 0 0, .int .i64 0, .int .i64 0, .string ⟨#[]⟩, .int .i64 0, .string ⟨#[]⟩, .slice none 0 0, .slice none 0 0, .slice none 0 0] 97)).alloc (.cells #[.string f.n, .int .i64 0, .string ⟨#[]⟩, .slice none 0 0, .int .i64 0, .int .i64 0, .string ⟨#[]⟩, .int .i64 0, .string ⟨#[]⟩, .slice none 0 0, .slice none 0 0, .slice none 0 0] 97)).heap[w.heap.size + 1]? = some (.cells #[.string ⟨#[]⟩, .int .i64 0, .string ⟨#[]⟩, .slice none 0 0, .int .i64 0, .int .i64 0, .string ⟨#[]⟩, .int .i64 0, .string ⟨#[]⟩, .slice none 0 0, .slice none 0 0, .slice none 0 0] 97 (0, 0)) := by
    rw [Below.heap_alloc _ _ _ (by simp)]
    exact heap_alloc_at _ _ _ _ rfl (by simp)
  have BO0 : (((w.alloc (.cells #[.string f.n, .int .i64 f.t.k, .string f.t.n, .slice f.t.a f.t.ks.length f.t.cap, .int .i64 f.u.k, .int .i64 f.u.m, .string f.u.n, .int .i64 f.u.t.k, .string f.u.t.n, .slice f.u.t.a f.u.t.ks.length f.u.t.cap, .slice f.u.na f.u.ns.length f.u.nc, .slice f.u.a f.u.ks.length f.u.cap] 143)).alloc (.cells #[.string ⟨#[]⟩, .int .i64 0, .string ⟨#[]⟩, .slice none 0 0, .int .i64 0, .int .i64 0, .string ⟨#[]⟩, .int .i64 0, .string ⟨#[]⟩, .slice none 0 0, .slice none 0 0, .slice none 0 0] 97)).alloc (.cells #[.string f.n, .int .i64 0, .string ⟨#[]⟩, .slice none 0 0, .int .i64 0, .int .i64 0, .string ⟨#[]⟩, .int .i64 0, .string ⟨#[]⟩, .slice none 0 0, .slice none 0 0, .slice none 0 0] 97)).heap[w.heap.size + 1 + 1]? = some (.cells #[.string f.n, .int .i64 0, .string ⟨#[]⟩, .slice none 0 0, .int .i64 0, .int .i64 0, .string ⟨#[]⟩, .int .i64 0, .string ⟨#[]⟩, .slice none 0 0, .slice none 0 0, .slice none 0 0] 97 (0, 0)) := heap_alloc_at _ _ _ _ rfl (by simp)
  have gW : Gw w (((w.alloc (.cells #[.string f.n, .int .i64 f.t.k, .string f.t.n, .slice f.t.a f.t.ks.length f.t.cap, .int .i64 f.u.k, .int .i64 f.u.m, .string f.u.n, .int .i64 f.u.t.k, .string f.u.t.n, .slice f.u.t.a f.u.t.ks.length f.u.t.cap, .slice f.u.na f.u.ns.length f.u.nc, .slice f.u.a f.u.ks.length f.u.cap] 143)).alloc (.cells #[.string ⟨#[]⟩, .int .i64 0, .string ⟨#[]⟩, .slice none 0 0, .int .i64 0, .int .i64 0, .string ⟨#[]⟩, .int .i64 0, .string ⟨#[]⟩, .slice none 0 0, .slice none 0 0, .slice none 0 0] 97)).alloc (.cells #[.string f.n, .int .i64 0, .string ⟨#[]⟩, .slice none 0 0, .int .i64 0, .int .i64 0, .string ⟨#[]⟩, .int .i64 0, .string ⟨#[]⟩, .slice none 0 0, .slice none 0 0, .slice none 0 0] 97)) := (((Gw.refl w).alloc _).alloc _).alloc _
  have sz0 : (((w.alloc (.cells #[.string f.n, .int .i64 f.t.k, .string f.t.n, .slice f.t.a f.t.ks.length f.t.cap, .int .i64 f.u.k, .int .i64 f.u.m, .string f.u.n, .int .i64 f.u.t.k, .string f.u.t.n, .slice f.u.t.a f.u.t.ks.length f.u.t.cap, .slice f.u.na f.u.ns.length f.u.nc, .slice f.u.a f.u.ks.length f.u.cap] 143)).alloc (.cells #[.string ⟨#[]⟩, .int .i64 0, .string ⟨#[]⟩, .slice none 0 0, .int .i64 0, .int .i64 0, .string ⟨#[]⟩, .int .i64 0, .string ⟨#[]⟩, .slice none 0 0, .slice none 0 0, .slice none 0 0] 97)).alloc (.cells #[.string f.n, .int .i64 0, .string ⟨#[]⟩, .slice none 0 0, .int .i64 0, .int .i64 0, .string ⟨#[]⟩, .int .i64 0, .string ⟨#[]⟩, .slice none 0 0, .slice none 0 0, .slice none 0 0] 97)).heap.size = w.heap.size + 3 := by simp
  generalize (((w.alloc (.cells #[.string f.n, .int .i64 f.t.k, .string f.t.n, .slice f.t.a f.t.ks.length f.t.cap, .int .i64 f.u.k, .int .i64 f.u.m, .string f.u.n, .int .i64 f.u.t.k, .string f.u.t.n, .slice f.u.t.a f.u.t.ks.length f.u.t.cap, .slice f.u.na f.u.ns.length f.u.nc, .slice f.u.a f.u.ks.length f.u.cap] 143)).alloc (.cells #[.string ⟨#[]⟩, .int .i64 0, .string ⟨#[]⟩, .slice none 0 0, .int .i64 0, .int .i64 0, .string ⟨#[]⟩, .int .i64 0, .string ⟨#[]⟩, .slice none 0 0, .slice none 0 0, .slice none 0 0] 97)).alloc (.cells #[.string f.n, .int .i64 0, .string ⟨#[]⟩, .slice none 0 0, .int .i64 0, .int .i64 0, .string ⟨#[]⟩, .int .i64 0, .string ⟨#[]⟩, .slice none 0 0, .slice none 0 0, .slice none 0 0] 97)) = w0 at *
  refine (laws_toType f.t _ (hT.out.grow gW) z1).mono ?_
  rintro e w1 ⟨t', rfl, ht, nt, hg⟩
  have BP1 := (hg.block _ (by omega)).trans BP0
  have BO1 := (hg.block _ (by omega)).trans BO0
  have BR := Lib.hid ((hg.block _ (by omega)).trans BR0)
  have gW1 := gW.trans hg
  have z1' : w.heap.size + 3 ≤ w1.heap.size := by have := hg.size; omega
  rw [sz0] at nt
  have HT := Lib.hid ht
  have NT := Lib.hid nt
  have p0 : w1.cell? ⟨w.heap.size, 4, none⟩ = some (.int .i64 f.u.k) := cell_of_row _ _ 4 _ _ _ BP1
  have p1 : w1.cell? ⟨w.heap.size, 5, none⟩ = some (.int .i64 f.u.m) := cell_of_row _ _ 5 _ _ _ BP1
  have p2 : w1.cell? ⟨w.heap.size, 6, none⟩ = some (.string f.u.n) := cell_of_row _ _ 6 _ _ _ BP1
  have p3 : w1.cell? ⟨w.heap.size, 7, none⟩ = some (.int .i64 f.u.t.k) := cell_of_row _ _ 7 _ _ _ BP1
  have p4 : w1.cell? ⟨w.heap.size, 8, none⟩ = some (.string f.u.t.n) := cell_of_row _ _ 8 _ _ _ BP1
  have p5 : w1.cell? ⟨w.heap.size, 9, none⟩ = some (.slice f.u.t.a f.u.t.ks.length f.u.t.cap) := cell_of_row _ _ 9 _ _ _ BP1
  have p6 : w1.cell? ⟨w.heap.size, 10, none⟩ = some (.slice f.u.na f.u.ns.length f.u.nc) := cell_of_row _ _ 10 _ _ _ BP1
  have p7 : w1.cell? ⟨w.heap.size, 11, none⟩ = some (.slice f.u.a f.u.ks.length f.u.cap) := cell_of_row _ _ 11 _ _ _ BP1
  have q0 : w1.cell? ⟨w.heap.size + 1 + 1, 1, none⟩ = some (.int .i64 0) := cell_of_row _ _ 1 _ _ _ BO1
  have x0 : w1.frozen? ⟨w.heap.size + 1 + 1, 1, none⟩ = false := by simp [World.frozen?, BO1]
  have q1 : w1.cell? ⟨w.heap.size + 1 + 1, 2, none⟩ = some (.string ⟨#[]⟩) := cell_of_row _ _ 2 _ _ _ BO1
  have x1 : w1.frozen? ⟨w.heap.size + 1 + 1, 2, none⟩ = false := by simp [World.frozen?, BO1]
  have q2 : w1.cell? ⟨w.heap.size + 1 + 1, 3, none⟩ = some (.slice none 0 0) := cell_of_row _ _ 3 _ _ _ BO1
  have x2 : w1.frozen? ⟨w.heap.size + 1 + 1, 3, none⟩ = false := by simp [World.frozen?, BO1]
  have BO := Lib.hid BO1
  clear ht nt BP0 BO0 BR0 gW hg BP1 BO1 sz0
  go_wp2_with fail
  clear p0 p1 p2 p3 p4 p5 p6 p7 q0 q1 q2 x0 x1 x2
  have BO1 : (((w1.setCell ⟨w.heap.size + 1 + 1, 1, none⟩ (.int .i64 t'.k)).setCell ⟨w.heap.size + 1 + 1, 2, none⟩ (.string t'.n)).setCell ⟨w.heap.size + 1 + 1, 3, none⟩ (.slice t'.a t'.ks.length t'.cap)).heap[w.heap.size + 1 + 1]? = some (.cells #[.string f.n, .int .i64 t'.k, .string t'.n, .slice t'.a t'.ks.length t'.cap, .int .i64 0, .int .i64 0, .string ⟨#[]⟩, .int .i64 0, .string ⟨#[]⟩, .slice none 0 0, .slice none 0 0, .slice none 0 0] 97 (0, 0)) := (by
    have hq := (set_at (i := 3) (v := .slice t'.a t'.ks.length t'.cap) (set_at (i := 2) (v := .string t'.n) (set_at (i := 1) (v := .int .i64 t'.k) BO.out)))
    simp only [List.setIfInBounds_toArray, List.set_cons_succ, List.set_cons_zero] at hq
    exact hq)
  have BR1 : (((w1.setCell ⟨w.heap.size + 1 + 1, 1, none⟩ (.int .i64 t'.k)).setCell ⟨w.heap.size + 1 + 1, 2, none⟩ (.string t'.n)).setCell ⟨w.heap.size + 1 + 1, 3, none⟩ (.slice t'.a t'.ks.length t'.cap)).heap[w.heap.size + 1]? = some (.cells #[.string ⟨#[]⟩, .int .i64 0, .string ⟨#[]⟩, .slice none 0 0, .int .i64 0, .int .i64 0, .string ⟨#[]⟩, .int .i64 0, .string ⟨#[]⟩, .slice none 0 0, .slice none 0 0, .slice none 0 0] 97 (0, 0)) := by
    rw [Below.heap_setCell _ _ _ _ (by simp <;> omega), Below.heap_setCell _ _ _ _ (by simp <;> omega), Below.heap_setCell _ _ _ _ (by simp <;> omega)]
    exact BR.out
  have NT1 := NT.out.same (w' := (((w1.setCell ⟨w.heap.size + 1 + 1, 1, none⟩ (.int .i64 t'.k)).setCell ⟨w.heap.size + 1 + 1, 2, none⟩ (.string t'.n)).setCell ⟨w.heap.size + 1 + 1, 3, none⟩ (.slice t'.a t'.ks.length t'.cap))) (fun c hc => by
    have := (NT.out.2.2 c hc).1
    rw [Below.heap_setCell _ _ _ _ (by simp <;> omega), Below.heap_setCell _ _ _ _ (by simp <;> omega), Below.heap_setCell _ _ _ _ (by simp <;> omega)])
  replace gW1 : Gw w (((w1.setCell ⟨w.heap.size + 1 + 1, 1, none⟩ (.int .i64 t'.k)).setCell ⟨w.heap.size + 1 + 1, 2, none⟩ (.string t'.n)).setCell ⟨w.heap.size + 1 + 1, 3, none⟩ (.slice t'.a t'.ks.length t'.cap)) := (Below.setCell (Below.setCell (Below.setCell gW1 (by simp <;> omega) _) (by simp <;> omega) _) (by simp <;> omega) _)
  replace z1' : w.heap.size + 3 ≤ (((w1.setCell ⟨w.heap.size + 1 + 1, 1, none⟩ (.int .i64 t'.k)).setCell ⟨w.heap.size + 1 + 1, 2, none⟩ (.string t'.n)).setCell ⟨w.heap.size + 1 + 1, 3, none⟩ (.slice t'.a t'.ks.length t'.cap)).heap.size := by simpa [World.setCell] using z1'
  clear BO NT BR
  generalize (((w1.setCell ⟨w.heap.size + 1 + 1, 1, none⟩ (.int .i64 t'.k)).setCell ⟨w.heap.size + 1 + 1, 2, none⟩ (.string t'.n)).setCell ⟨w.heap.size + 1 + 1, 3, none⟩ (.slice t'.a t'.ks.length t'.cap)) = W1 at *
  refine (laws_toTerm f.u _ (hU.out.grow gW1) z2).mono ?_
  rintro e w2 ⟨u', rfl, hu, nu, hg⟩
  have hs12 := hg.size
  have BO := Lib.hid ((hg.block _ (by omega)).trans BO1)
  have BR := Lib.hid ((hg.block _ (by omega)).trans BR1)
  have NU := Lib.hid nu
  have HU := Lib.hid hu
  have NT := Lib.hid (NT1.grow hg)
  have HB1 := Lib.hid (fun b (hb : b ∈ t'.bl) => (NT1.2.2 b hb).2.lt)
  have gW2 := gW1.trans hg
  have q0 : w2.cell? ⟨w.heap.size + 1 + 1, 0, none⟩ = some (.string f.n) := cell_of_row _ _ 0 _ _ _ BO.out
  have q1 : w2.cell? ⟨w.heap.size + 1 + 1, 1, none⟩ = some (.int .i64 t'.k) := cell_of_row _ _ 1 _ _ _ BO.out
  have q2 : w2.cell? ⟨w.heap.size + 1 + 1, 2, none⟩ = some (.string t'.n) := cell_of_row _ _ 2 _ _ _ BO.out
  have q3 : w2.cell? ⟨w.heap.size + 1 + 1, 3, none⟩ = some (.slice t'.a t'.ks.length t'.cap) := cell_of_row _ _ 3 _ _ _ BO.out
  have q4 : w2.cell? ⟨w.heap.size + 1 + 1, 4, none⟩ = some (.int .i64 0) := cell_of_row _ _ 4 _ _ _ BO.out
  have x4 : w2.frozen? ⟨w.heap.size + 1 + 1, 4, none⟩ = false := by simp [World.frozen?, BO.out]
  have q5 : w2.cell? ⟨w.heap.size + 1 + 1, 5, none⟩ = some (.int .i64 0) := cell_of_row _ _ 5 _ _ _ BO.out
  have x5 : w2.frozen? ⟨w.heap.size + 1 + 1, 5, none⟩ = false := by simp [World.frozen?, BO.out]
  have q6 : w2.cell? ⟨w.heap.size + 1 + 1, 6, none⟩ = some (.string ⟨#[]⟩) := cell_of_row _ _ 6 _ _ _ BO.out
  have x6 : w2.frozen? ⟨w.heap.size + 1 + 1, 6, none⟩ = false := by simp [World.frozen?, BO.out]
  have q7 : w2.cell? ⟨w.heap.size + 1 + 1, 7, none⟩ = some (.int .i64 0) := cell_of_row _ _ 7 _ _ _ BO.out
  have x7 : w2.frozen? ⟨w.heap.size + 1 + 1, 7, none⟩ = false := by simp [World.frozen?, BO.out]
  have q8 : w2.cell? ⟨w.heap.size + 1 + 1, 8, none⟩ = some (.string ⟨#[]⟩) := cell_of_row _ _ 8 _ _ _ BO.out
  have x8 : w2.frozen? ⟨w.heap.size + 1 + 1, 8, none⟩ = false := by simp [World.frozen?, BO.out]
  have q9 : w2.cell? ⟨w.heap.size + 1 + 1, 9, none⟩ = some (.slice none 0 0) := cell_of_row _ _ 9 _ _ _ BO.out
  have x9 : w2.frozen? ⟨w.heap.size + 1 + 1, 9, none⟩ = false := by simp [World.frozen?, BO.out]
  have q10 : w2.cell? ⟨w.heap.size + 1 + 1, 10, none⟩ = some (.slice none 0 0) := cell_of_row _ _ 10 _ _ _ BO.out
  have x10 : w2.frozen? ⟨w.heap.size + 1 + 1, 10, none⟩ = false := by simp [World.frozen?, BO.out]
  have q11 : w2.cell? ⟨w.heap.size + 1 + 1, 11, none⟩ = some (.slice none 0 0) := cell_of_row _ _ 11 _ _ _ BO.out
  have x11 : w2.frozen? ⟨w.heap.size + 1 + 1, 11, none⟩ = false := by simp [World.frozen?, BO.out]
  have r0 : w2.cell? ⟨w.heap.size + 1, 0, none⟩ = some (.string ⟨#[]⟩) := cell_of_row _ _ 0 _ _ _ BR.out
  have y0 : w2.frozen? ⟨w.heap.size + 1, 0, none⟩ = false := by simp [World.frozen?, BR.out]
  have r1 : w2.cell? ⟨w.heap.size + 1, 1, none⟩ = some (.int .i64 0) := cell_of_row _ _ 1 _ _ _ BR.out
  have y1 : w2.frozen? ⟨w.heap.size + 1, 1, none⟩ = false := by simp [World.frozen?, BR.out]
  have r2 : w2.cell? ⟨w.heap.size + 1, 2, none⟩ = some (.string ⟨#[]⟩) := cell_of_row _ _ 2 _ _ _ BR.out
  have y2 : w2.frozen? ⟨w.heap.size + 1, 2, none⟩ = false := by simp [World.frozen?, BR.out]
  have r3 : w2.cell? ⟨w.heap.size + 1, 3, none⟩ = some (.slice none 0 0) := cell_of_row _ _ 3 _ _ _ BR.out
  have y3 : w2.frozen? ⟨w.heap.size + 1, 3, none⟩ = false := by simp [World.frozen?, BR.out]
  have r4 : w2.cell? ⟨w.heap.size + 1, 4, none⟩ = some (.int .i64 0) := cell_of_row _ _ 4 _ _ _ BR.out
  have y4 : w2.frozen? ⟨w.heap.size + 1, 4, none⟩ = false := by simp [World.frozen?, BR.out]
  have r5 : w2.cell? ⟨w.heap.size + 1, 5, none⟩ = some (.int .i64 0) := cell_of_row _ _ 5 _ _ _ BR.out
  have y5 : w2.frozen? ⟨w.heap.size + 1, 5, none⟩ = false := by simp [World.frozen?, BR.out]
  have r6 : w2.cell? ⟨w.heap.size + 1, 6, none⟩ = some (.string ⟨#[]⟩) := cell_of_row _ _ 6 _ _ _ BR.out
  have y6 : w2.frozen? ⟨w.heap.size + 1, 6, none⟩ = false := by simp [World.frozen?, BR.out]
  have r7 : w2.cell? ⟨w.heap.size + 1, 7, none⟩ = some (.int .i64 0) := cell_of_row _ _ 7 _ _ _ BR.out
  have y7 : w2.frozen? ⟨w.heap.size + 1, 7, none⟩ = false := by simp [World.frozen?, BR.out]
  have r8 : w2.cell? ⟨w.heap.size + 1, 8, none⟩ = some (.string ⟨#[]⟩) := cell_of_row _ _ 8 _ _ _ BR.out
  have y8 : w2.frozen? ⟨w.heap.size + 1, 8, none⟩ = false := by simp [World.frozen?, BR.out]
  have r9 : w2.cell? ⟨w.heap.size + 1, 9, none⟩ = some (.slice none 0 0) := cell_of_row _ _ 9 _ _ _ BR.out
  have y9 : w2.frozen? ⟨w.heap.size + 1, 9, none⟩ = false := by simp [World.frozen?, BR.out]
  have r10 : w2.cell? ⟨w.heap.size + 1, 10, none⟩ = some (.slice none 0 0) := cell_of_row _ _ 10 _ _ _ BR.out
  have y10 : w2.frozen? ⟨w.heap.size + 1, 10, none⟩ = false := by simp [World.frozen?, BR.out]
  have r11 : w2.cell? ⟨w.heap.size + 1, 11, none⟩ = some (.slice none 0 0) := cell_of_row _ _ 11 _ _ _ BR.out
  have y11 : w2.frozen? ⟨w.heap.size + 1, 11, none⟩ = false := by simp [World.frozen?, BR.out]
  clear BO1 BR1 NT1 gW1 hg nu hu
  go_upto_region 5 with (fail)
  clear q0 q1 q2 q3 q4 q5 q6 q7 q8 q9 q10 q11 x4 x5 x6 x7 x8 x9 x10 x11 r0 y0 r1 y1 r2 y2 r3 y3 r4 y4 r5 y5 r6 y6 r7 y7 r8 y8 r9 y9 r10 y10 r11 y11
  have BO2 : ((((((((w2.setCell ⟨w.heap.size + 1 + 1, 4, none⟩ (.int .i64 u'.k)).setCell ⟨w.heap.size + 1 + 1, 5, none⟩ (.int .i64 u'.m)).setCell ⟨w.heap.size + 1 + 1, 6, none⟩ (.string u'.n)).setCell ⟨w.heap.size + 1 + 1, 7, none⟩ (.int .i64 u'.t.k)).setCell ⟨w.heap.size + 1 + 1, 8, none⟩ (.string u'.t.n)).setCell ⟨w.heap.size + 1 + 1, 9, none⟩ (.slice u'.t.a u'.t.ks.length u'.t.cap)).setCell ⟨w.heap.size + 1 + 1, 10, none⟩ (.slice u'.na u'.ns.length u'.nc)).setCell ⟨w.heap.size + 1 + 1, 11, none⟩ (.slice u'.a u'.ks.length u'.cap)).heap[w.heap.size + 1 + 1]? = some (.cells #[.string f.n, .int .i64 t'.k, .string t'.n, .slice t'.a t'.ks.length t'.cap, .int .i64 u'.k, .int .i64 u'.m, .string u'.n, .int .i64 u'.t.k, .string u'.t.n, .slice u'.t.a u'.t.ks.length u'.t.cap, .slice u'.na u'.ns.length u'.nc, .slice u'.a u'.ks.length u'.cap] 97 (0, 0)) := (by
    have hq := (set_at (i := 11) (v := .slice u'.a u'.ks.length u'.cap) (set_at (i := 10) (v := .slice u'.na u'.ns.length u'.nc) (set_at (i := 9) (v := .slice u'.t.a u'.t.ks.length u'.t.cap) (set_at (i := 8) (v := .string u'.t.n) (set_at (i := 7) (v := .int .i64 u'.t.k) (set_at (i := 6) (v := .string u'.n) (set_at (i := 5) (v := .int .i64 u'.m) (set_at (i := 4) (v := .int .i64 u'.k) BO.out))))))))
    simp only [List.setIfInBounds_toArray, List.set_cons_succ, List.set_cons_zero] at hq
    exact hq)
  have BR3 : ((((((((w2.setCell ⟨w.heap.size + 1 + 1, 4, none⟩ (.int .i64 u'.k)).setCell ⟨w.heap.size + 1 + 1, 5, none⟩ (.int .i64 u'.m)).setCell ⟨w.heap.size + 1 + 1, 6, none⟩ (.string u'.n)).setCell ⟨w.heap.size + 1 + 1, 7, none⟩ (.int .i64 u'.t.k)).setCell ⟨w.heap.size + 1 + 1, 8, none⟩ (.string u'.t.n)).setCell ⟨w.heap.size + 1 + 1, 9, none⟩ (.slice u'.t.a u'.t.ks.length u'.t.cap)).setCell ⟨w.heap.size + 1 + 1, 10, none⟩ (.slice u'.na u'.ns.length u'.nc)).setCell ⟨w.heap.size + 1 + 1, 11, none⟩ (.slice u'.a u'.ks.length u'.cap)).heap[w.heap.size + 1]? = some (.cells #[.string ⟨#[]⟩, .int .i64 0, .string ⟨#[]⟩, .slice none 0 0, .int .i64 0, .int .i64 0, .string ⟨#[]⟩, .int .i64 0, .string ⟨#[]⟩, .slice none 0 0, .slice none 0 0, .slice none 0 0] 97 (0, 0)) := by
    rw [Below.heap_setCell _ _ _ _ (by simp <;> omega), Below.heap_setCell _ _ _ _ (by simp <;> omega), Below.heap_setCell _ _ _ _ (by simp <;> omega), Below.heap_setCell _ _ _ _ (by simp <;> omega), Below.heap_setCell _ _ _ _ (by simp <;> omega), Below.heap_setCell _ _ _ _ (by simp <;> omega), Below.heap_setCell _ _ _ _ (by simp <;> omega), Below.heap_setCell _ _ _ _ (by simp <;> omega)]
    exact BR.out
  have gW3 : Gw w ((((((((w2.setCell ⟨w.heap.size + 1 + 1, 4, none⟩ (.int .i64 u'.k)).setCell ⟨w.heap.size + 1 + 1, 5, none⟩ (.int .i64 u'.m)).setCell ⟨w.heap.size + 1 + 1, 6, none⟩ (.string u'.n)).setCell ⟨w.heap.size + 1 + 1, 7, none⟩ (.int .i64 u'.t.k)).setCell ⟨w.heap.size + 1 + 1, 8, none⟩ (.string u'.t.n)).setCell ⟨w.heap.size + 1 + 1, 9, none⟩ (.slice u'.t.a u'.t.ks.length u'.t.cap)).setCell ⟨w.heap.size + 1 + 1, 10, none⟩ (.slice u'.na u'.ns.length u'.nc)).setCell ⟨w.heap.size + 1 + 1, 11, none⟩ (.slice u'.a u'.ks.length u'.cap)) := (Below.setCell (Below.setCell (Below.setCell (Below.setCell (Below.setCell (Below.setCell (Below.setCell (Below.setCell gW2 (by simp <;> omega) _) (by simp <;> omega) _) (by simp <;> omega) _) (by simp <;> omega) _) (by simp <;> omega) _) (by simp <;> omega) _) (by simp <;> omega) _) (by simp <;> omega) _)
  have far2 : ∀ c, w.heap.size + 3 ≤ c → ((((((((w2.setCell ⟨w.heap.size + 1 + 1, 4, none⟩ (.int .i64 u'.k)).setCell ⟨w.heap.size + 1 + 1, 5, none⟩ (.int .i64 u'.m)).setCell ⟨w.heap.size + 1 + 1, 6, none⟩ (.string u'.n)).setCell ⟨w.heap.size + 1 + 1, 7, none⟩ (.int .i64 u'.t.k)).setCell ⟨w.heap.size + 1 + 1, 8, none⟩ (.string u'.t.n)).setCell ⟨w.heap.size + 1 + 1, 9, none⟩ (.slice u'.t.a u'.t.ks.length u'.t.cap)).setCell ⟨w.heap.size + 1 + 1, 10, none⟩ (.slice u'.na u'.ns.length u'.nc)).setCell ⟨w.heap.size + 1 + 1, 11, none⟩ (.slice u'.a u'.ks.length u'.cap)).heap[c]? = w2.heap[c]? := fun c hc => by
    rw [Below.heap_setCell _ _ _ _ (by simp <;> omega), Below.heap_setCell _ _ _ _ (by simp <;> omega), Below.heap_setCell _ _ _ _ (by simp <;> omega), Below.heap_setCell _ _ _ _ (by simp <;> omega), Below.heap_setCell _ _ _ _ (by simp <;> omega), Below.heap_setCell _ _ _ _ (by simp <;> omega), Below.heap_setCell _ _ _ _ (by simp <;> omega), Below.heap_setCell _ _ _ _ (by simp <;> omega)]
  clear gW2 BO BR
  generalize ((((((((w2.setCell ⟨w.heap.size + 1 + 1, 4, none⟩ (.int .i64 u'.k)).setCell ⟨w.heap.size + 1 + 1, 5, none⟩ (.int .i64 u'.m)).setCell ⟨w.heap.size + 1 + 1, 6, none⟩ (.string u'.n)).setCell ⟨w.heap.size + 1 + 1, 7, none⟩ (.int .i64 u'.t.k)).setCell ⟨w.heap.size + 1 + 1, 8, none⟩ (.string u'.t.n)).setCell ⟨w.heap.size + 1 + 1, 9, none⟩ (.slice u'.t.a u'.t.ks.length u'.t.cap)).setCell ⟨w.heap.size + 1 + 1, 10, none⟩ (.slice u'.na u'.ns.length u'.nc)).setCell ⟨w.heap.size + 1 + 1, 11, none⟩ (.slice u'.a u'.ks.length u'.cap)) = V2 at *
  have q0 : V2.cell? ⟨w.heap.size + 1 + 1, 0, none⟩ = some (.string f.n) := cell_of_row _ _ 0 _ _ _ BO2
  have q1 : V2.cell? ⟨w.heap.size + 1 + 1, 1, none⟩ = some (.int .i64 t'.k) := cell_of_row _ _ 1 _ _ _ BO2
  have q2 : V2.cell? ⟨w.heap.size + 1 + 1, 2, none⟩ = some (.string t'.n) := cell_of_row _ _ 2 _ _ _ BO2
  have q3 : V2.cell? ⟨w.heap.size + 1 + 1, 3, none⟩ = some (.slice t'.a t'.ks.length t'.cap) := cell_of_row _ _ 3 _ _ _ BO2
  have q4 : V2.cell? ⟨w.heap.size + 1 + 1, 4, none⟩ = some (.int .i64 u'.k) := cell_of_row _ _ 4 _ _ _ BO2
  have q5 : V2.cell? ⟨w.heap.size + 1 + 1, 5, none⟩ = some (.int .i64 u'.m) := cell_of_row _ _ 5 _ _ _ BO2
  have q6 : V2.cell? ⟨w.heap.size + 1 + 1, 6, none⟩ = some (.string u'.n) := cell_of_row _ _ 6 _ _ _ BO2
  have q7 : V2.cell? ⟨w.heap.size + 1 + 1, 7, none⟩ = some (.int .i64 u'.t.k) := cell_of_row _ _ 7 _ _ _ BO2
  have q8 : V2.cell? ⟨w.heap.size + 1 + 1, 8, none⟩ = some (.string u'.t.n) := cell_of_row _ _ 8 _ _ _ BO2
  have q9 : V2.cell? ⟨w.heap.size + 1 + 1, 9, none⟩ = some (.slice u'.t.a u'.t.ks.length u'.t.cap) := cell_of_row _ _ 9 _ _ _ BO2
  have q10 : V2.cell? ⟨w.heap.size + 1 + 1, 10, none⟩ = some (.slice u'.na u'.ns.length u'.nc) := cell_of_row _ _ 10 _ _ _ BO2
  have q11 : V2.cell? ⟨w.heap.size + 1 + 1, 11, none⟩ = some (.slice u'.a u'.ks.length u'.cap) := cell_of_row _ _ 11 _ _ _ BO2
  have r0 : V2.cell? ⟨w.heap.size + 1, 0, none⟩ = some (.string ⟨#[]⟩) := cell_of_row _ _ 0 _ _ _ BR3
  have y0 : V2.frozen? ⟨w.heap.size + 1, 0, none⟩ = false := by simp [World.frozen?, BR3]
  have r1 : V2.cell? ⟨w.heap.size + 1, 1, none⟩ = some (.int .i64 0) := cell_of_row _ _ 1 _ _ _ BR3
  have y1 : V2.frozen? ⟨w.heap.size + 1, 1, none⟩ = false := by simp [World.frozen?, BR3]
  have r2 : V2.cell? ⟨w.heap.size + 1, 2, none⟩ = some (.string ⟨#[]⟩) := cell_of_row _ _ 2 _ _ _ BR3
  have y2 : V2.frozen? ⟨w.heap.size + 1, 2, none⟩ = false := by simp [World.frozen?, BR3]
  have r3 : V2.cell? ⟨w.heap.size + 1, 3, none⟩ = some (.slice none 0 0) := cell_of_row _ _ 3 _ _ _ BR3
  have y3 : V2.frozen? ⟨w.heap.size + 1, 3, none⟩ = false := by simp [World.frozen?, BR3]
  have r4 : V2.cell? ⟨w.heap.size + 1, 4, none⟩ = some (.int .i64 0) := cell_of_row _ _ 4 _ _ _ BR3
  have y4 : V2.frozen? ⟨w.heap.size + 1, 4, none⟩ = false := by simp [World.frozen?, BR3]
  have r5 : V2.cell? ⟨w.heap.size + 1, 5, none⟩ = some (.int .i64 0) := cell_of_row _ _ 5 _ _ _ BR3
  have y5 : V2.frozen? ⟨w.heap.size + 1, 5, none⟩ = false := by simp [World.frozen?, BR3]
  have r6 : V2.cell? ⟨w.heap.size + 1, 6, none⟩ = some (.string ⟨#[]⟩) := cell_of_row _ _ 6 _ _ _ BR3
  have y6 : V2.frozen? ⟨w.heap.size + 1, 6, none⟩ = false := by simp [World.frozen?, BR3]
  have r7 : V2.cell? ⟨w.heap.size + 1, 7, none⟩ = some (.int .i64 0) := cell_of_row _ _ 7 _ _ _ BR3
  have y7 : V2.frozen? ⟨w.heap.size + 1, 7, none⟩ = false := by simp [World.frozen?, BR3]
  have r8 : V2.cell? ⟨w.heap.size + 1, 8, none⟩ = some (.string ⟨#[]⟩) := cell_of_row _ _ 8 _ _ _ BR3
  have y8 : V2.frozen? ⟨w.heap.size + 1, 8, none⟩ = false := by simp [World.frozen?, BR3]
  have r9 : V2.cell? ⟨w.heap.size + 1, 9, none⟩ = some (.slice none 0 0) := cell_of_row _ _ 9 _ _ _ BR3
  have y9 : V2.frozen? ⟨w.heap.size + 1, 9, none⟩ = false := by simp [World.frozen?, BR3]
  have r10 : V2.cell? ⟨w.heap.size + 1, 10, none⟩ = some (.slice none 0 0) := cell_of_row _ _ 10 _ _ _ BR3
  have y10 : V2.frozen? ⟨w.heap.size + 1, 10, none⟩ = false := by simp [World.frozen?, BR3]
  have r11 : V2.cell? ⟨w.heap.size + 1, 11, none⟩ = some (.slice none 0 0) := cell_of_row _ _ 11 _ _ _ BR3
  have y11 : V2.frozen? ⟨w.heap.size + 1, 11, none⟩ = false := by simp [World.frozen?, BR3]
  have BR4 := Lib.hid BR3
  clear BR3 BO2
  go_wp2_with fail
  clear q0 q1 q2 q3 q4 q5 q6 q7 q8 q9 q10 q11 r0 y0 r1 y1 r2 y2 r3 y3 r4 y4 r5 y5 r6 y6 r7 y7 r8 y8 r9 y9 r10 y10 r11 y11
  have BRF : ((((((((((((V2.setCell ⟨w.heap.size + 1, 0, none⟩ (.string f.n)).setCell ⟨w.heap.size + 1, 1, none⟩ (.int .i64 t'.k)).setCell ⟨w.heap.size + 1, 2, none⟩ (.string t'.n)).setCell ⟨w.heap.size + 1, 3, none⟩ (.slice t'.a t'.ks.length t'.cap)).setCell ⟨w.heap.size + 1, 4, none⟩ (.int .i64 u'.k)).setCell ⟨w.heap.size + 1, 5, none⟩ (.int .i64 u'.m)).setCell ⟨w.heap.size + 1, 6, none⟩ (.string u'.n)).setCell ⟨w.heap.size + 1, 7, none⟩ (.int .i64 u'.t.k)).setCell ⟨w.heap.size + 1, 8, none⟩ (.string u'.t.n)).setCell ⟨w.heap.size + 1, 9, none⟩ (.slice u'.t.a u'.t.ks.length u'.t.cap)).setCell ⟨w.heap.size + 1, 10, none⟩ (.slice u'.na u'.ns.length u'.nc)).setCell ⟨w.heap.size + 1, 11, none⟩ (.slice u'.a u'.ks.length u'.cap)).heap[w.heap.size + 1]? = some (.cells #[.string f.n, .int .i64 t'.k, .string t'.n, .slice t'.a t'.ks.length t'.cap, .int .i64 u'.k, .int .i64 u'.m, .string u'.n, .int .i64 u'.t.k, .string u'.t.n, .slice u'.t.a u'.t.ks.length u'.t.cap, .slice u'.na u'.ns.length u'.nc, .slice u'.a u'.ks.length u'.cap] 97 (0, 0)) := (by
    have hq := (set_at (i := 11) (v := .slice u'.a u'.ks.length u'.cap) (set_at (i := 10) (v := .slice u'.na u'.ns.length u'.nc) (set_at (i := 9) (v := .slice u'.t.a u'.t.ks.length u'.t.cap) (set_at (i := 8) (v := .string u'.t.n) (set_at (i := 7) (v := .int .i64 u'.t.k) (set_at (i := 6) (v := .string u'.n) (set_at (i := 5) (v := .int .i64 u'.m) (set_at (i := 4) (v := .int .i64 u'.k) (set_at (i := 3) (v := .slice t'.a t'.ks.length t'.cap) (set_at (i := 2) (v := .string t'.n) (set_at (i := 1) (v := .int .i64 t'.k) (set_at (i := 0) (v := .string f.n) BR4.out))))))))))))
    simp only [List.setIfInBounds_toArray, List.set_cons_succ, List.set_cons_zero] at hq
    exact hq)
  have gWF : Gw w ((((((((((((V2.setCell ⟨w.heap.size + 1, 0, none⟩ (.string f.n)).setCell ⟨w.heap.size + 1, 1, none⟩ (.int .i64 t'.k)).setCell ⟨w.heap.size + 1, 2, none⟩ (.string t'.n)).setCell ⟨w.heap.size + 1, 3, none⟩ (.slice t'.a t'.ks.length t'.cap)).setCell ⟨w.heap.size + 1, 4, none⟩ (.int .i64 u'.k)).setCell ⟨w.heap.size + 1, 5, none⟩ (.int .i64 u'.m)).setCell ⟨w.heap.size + 1, 6, none⟩ (.string u'.n)).setCell ⟨w.heap.size + 1, 7, none⟩ (.int .i64 u'.t.k)).setCell ⟨w.heap.size + 1, 8, none⟩ (.string u'.t.n)).setCell ⟨w.heap.size + 1, 9, none⟩ (.slice u'.t.a u'.t.ks.length u'.t.cap)).setCell ⟨w.heap.size + 1, 10, none⟩ (.slice u'.na u'.ns.length u'.nc)).setCell ⟨w.heap.size + 1, 11, none⟩ (.slice u'.a u'.ks.length u'.cap)) := (Below.setCell (Below.setCell (Below.setCell (Below.setCell (Below.setCell (Below.setCell (Below.setCell (Below.setCell (Below.setCell (Below.setCell (Below.setCell (Below.setCell gW3 (by simp <;> omega) _) (by simp <;> omega) _) (by simp <;> omega) _) (by simp <;> omega) _) (by simp <;> omega) _) (by simp <;> omega) _) (by simp <;> omega) _) (by simp <;> omega) _) (by simp <;> omega) _) (by simp <;> omega) _) (by simp <;> omega) _) (by simp <;> omega) _)
  have far : ∀ c, w.heap.size + 3 ≤ c → ((((((((((((V2.setCell ⟨w.heap.size + 1, 0, none⟩ (.string f.n)).setCell ⟨w.heap.size + 1, 1, none⟩ (.int .i64 t'.k)).setCell ⟨w.heap.size + 1, 2, none⟩ (.string t'.n)).setCell ⟨w.heap.size + 1, 3, none⟩ (.slice t'.a t'.ks.length t'.cap)).setCell ⟨w.heap.size + 1, 4, none⟩ (.int .i64 u'.k)).setCell ⟨w.heap.size + 1, 5, none⟩ (.int .i64 u'.m)).setCell ⟨w.heap.size + 1, 6, none⟩ (.string u'.n)).setCell ⟨w.heap.size + 1, 7, none⟩ (.int .i64 u'.t.k)).setCell ⟨w.heap.size + 1, 8, none⟩ (.string u'.t.n)).setCell ⟨w.heap.size + 1, 9, none⟩ (.slice u'.t.a u'.t.ks.length u'.t.cap)).setCell ⟨w.heap.size + 1, 10, none⟩ (.slice u'.na u'.ns.length u'.nc)).setCell ⟨w.heap.size + 1, 11, none⟩ (.slice u'.a u'.ks.length u'.cap)).heap[c]? = w2.heap[c]? := fun c hc => by
    rw [Below.heap_setCell _ _ _ _ (by simp <;> omega), Below.heap_setCell _ _ _ _ (by simp <;> omega), Below.heap_setCell _ _ _ _ (by simp <;> omega), Below.heap_setCell _ _ _ _ (by simp <;> omega), Below.heap_setCell _ _ _ _ (by simp <;> omega), Below.heap_setCell _ _ _ _ (by simp <;> omega), Below.heap_setCell _ _ _ _ (by simp <;> omega), Below.heap_setCell _ _ _ _ (by simp <;> omega), Below.heap_setCell _ _ _ _ (by simp <;> omega), Below.heap_setCell _ _ _ _ (by simp <;> omega), Below.heap_setCell _ _ _ _ (by simp <;> omega), Below.heap_setCell _ _ _ _ (by simp <;> omega)]
    exact far2 c hc
  clear gW3 far2
  generalize ((((((((((((V2.setCell ⟨w.heap.size + 1, 0, none⟩ (.string f.n)).setCell ⟨w.heap.size + 1, 1, none⟩ (.int .i64 t'.k)).setCell ⟨w.heap.size + 1, 2, none⟩ (.string t'.n)).setCell ⟨w.heap.size + 1, 3, none⟩ (.slice t'.a t'.ks.length t'.cap)).setCell ⟨w.heap.size + 1, 4, none⟩ (.int .i64 u'.k)).setCell ⟨w.heap.size + 1, 5, none⟩ (.int .i64 u'.m)).setCell ⟨w.heap.size + 1, 6, none⟩ (.string u'.n)).setCell ⟨w.heap.size + 1, 7, none⟩ (.int .i64 u'.t.k)).setCell ⟨w.heap.size + 1, 8, none⟩ (.string u'.t.n)).setCell ⟨w.heap.size + 1, 9, none⟩ (.slice u'.t.a u'.t.ks.length u'.t.cap)).setCell ⟨w.heap.size + 1, 10, none⟩ (.slice u'.na u'.ns.length u'.nc)).setCell ⟨w.heap.size + 1, 11, none⟩ (.slice u'.a u'.ks.length u'.cap)) = W3 at *
  have e0 : W3.cell? ⟨w.heap.size + 1, 0, none⟩ = some (.string f.n) := cell_of_row _ _ 0 _ _ _ BRF
  have e1 : W3.cell? ⟨w.heap.size + 1, 1, none⟩ = some (.int .i64 t'.k) := cell_of_row _ _ 1 _ _ _ BRF
  have e2 : W3.cell? ⟨w.heap.size + 1, 2, none⟩ = some (.string t'.n) := cell_of_row _ _ 2 _ _ _ BRF
  have e3 : W3.cell? ⟨w.heap.size + 1, 3, none⟩ = some (.slice t'.a t'.ks.length t'.cap) := cell_of_row _ _ 3 _ _ _ BRF
  have e4 : W3.cell? ⟨w.heap.size + 1, 4, none⟩ = some (.int .i64 u'.k) := cell_of_row _ _ 4 _ _ _ BRF
  have e5 : W3.cell? ⟨w.heap.size + 1, 5, none⟩ = some (.int .i64 u'.m) := cell_of_row _ _ 5 _ _ _ BRF
  have e6 : W3.cell? ⟨w.heap.size + 1, 6, none⟩ = some (.string u'.n) := cell_of_row _ _ 6 _ _ _ BRF
  have e7 : W3.cell? ⟨w.heap.size + 1, 7, none⟩ = some (.int .i64 u'.t.k) := cell_of_row _ _ 7 _ _ _ BRF
  have e8 : W3.cell? ⟨w.heap.size + 1, 8, none⟩ = some (.string u'.t.n) := cell_of_row _ _ 8 _ _ _ BRF
  have e9 : W3.cell? ⟨w.heap.size + 1, 9, none⟩ = some (.slice u'.t.a u'.t.ks.length u'.t.cap) := cell_of_row _ _ 9 _ _ _ BRF
  have e10 : W3.cell? ⟨w.heap.size + 1, 10, none⟩ = some (.slice u'.na u'.ns.length u'.nc) := cell_of_row _ _ 10 _ _ _ BRF
  have e11 : W3.cell? ⟨w.heap.size + 1, 11, none⟩ = some (.slice u'.a u'.ks.length u'.cap) := cell_of_row _ _ 11 _ _ _ BRF
  refine bodyPost_ret (v := (LF.mk f.n t' u').val) (by simp [results, Try.results96, go_sem, e0, e1, e2, e3, e4, e5, e6, e7, e8, e9, e10, e11]) rfl ⟨⟨f.n, t', u'⟩, rfl, ?_, ?_, gWF⟩
  · show (f.n, t'.ty, u'.tm) = (f.n, f.t.ty, f.u.tm)
    rw [HT.out, HU.out]
  · exact LF.new_mk hn ((NT.out.same fun c hc => far c (NT.out.2.2 c hc).1).mono (by omega)) (gNew.same tmFr NU.out fun c hc => far c (by have := (NU.out.2.2 c hc).1; omega)) HB1.out (by omega)

theorem laws_toDefS (ks : List LF) (w : World) (a : Option Addr) (cap : Nat) (h : dfSl w a cap ks) (hs : sm LF.sz ks ≤ 1048576) :
    Calls Try.prog 60 #[.slice a ks.length cap] w (ToFS w ks) := by
  have hl : ks.length ≤ 1048576 := Nat.le_trans (sm_ge LF.sz ks) hs
  obtain ⟨_, _, hrow⟩ := h
  obtain ⟨i0, hi, hz0, hz1, hz2⟩ := info_parts (P := Try.prog) (e := 97) (z := .agg #[.string ⟨#[]⟩, .int .i64 0, .string ⟨#[]⟩, .slice none 0 0, .int .i64 0, .int .i64 0, .string ⟨#[]⟩, .int .i64 0, .string ⟨#[]⟩, .slice none 0 0, .slice none 0 0, .slice none 0 0]) (size := 12) (bytes := 192) (by kernel_rfl)
  have hmk : ∀ W : World, (Instr.makeSlice 53 (.int .i64 (ks.length : Int)) (.int .i64 (ks.length : Int))).run Try.prog W = .ok (.slice (some ⟨W.heap.size, 0, none⟩) ks.length ks.length) (W.alloc (.cells (madeCells #[.string ⟨#[]⟩, .int .i64 0, .string ⟨#[]⟩, .slice none 0 0, .int .i64 0, .int .i64 0, .string ⟨#[]⟩, .int .i64 0, .string ⟨#[]⟩, .slice none 0 0, .slice none 0 0, .slice none 0 0] (ks.length * 12)) 97)) := fun W => by
    have hr := run_make (P := Try.prog) W 53 97 i0 _ Try.underlying53 hi hz0 .i64 .i64 (ks.length : Int) (ks.length : Int) (by omega) (Int.le_refl _) (by rw [hz2]; omega) (by omega)
    rw [Int.toNat_natCast, hz1] at hr
    exact hr
  have HI := Lib.hid hi
  clear hi hz0 hz1 hz2
  go_enter Try.func60, Try.ntmps60
  go_wp2_with fail
  have hgw0 : Gw w (w.alloc (.cells (madeCells #[.string ⟨#[]⟩, .int .i64 0, .string ⟨#[]⟩, .slice none 0 0, .int .i64 0, .int .i64 0, .string ⟨#[]⟩, .int .i64 0, .string ⟨#[]⟩, .slice none 0 0, .slice none 0 0, .slice none 0 0] (ks.length * 12)) 97)) := (Gw.refl w).alloc _
  go_loopw [4] (fun i wr => ∃ us : List LF, i = .int .i64 us.length ∧ us.map LF.df = (ks.take us.length).map LF.df ∧ gFill 12 dfE dfOk dfB wr w.heap.size ks.length us ∧ Gw w wr) (fun i _ => ks.length - (intOf i).toNat)
  case atStart => exact ⟨[], rfl, rfl, gFill.start _ _ _ ⟨_, _, heap_alloc_new _ _, by rw [size_madeCells]⟩, hgw0⟩
  case round =>
    obtain ⟨us, rfl, hty, hfill, hg⟩ := hrel
    have HT := Lib.hid hty
    have HF := Lib.hid hfill
    have hj : us.length ≤ ks.length := hfill.1
    clear hty hfill hgw0 HI hmk
    by_cases hlt : us.length < ks.length
    · have hrow' := hrow.resolve_left (fun e => by subst e; simp at hlt)
      obtain ⟨b, o, rfl, hr⟩ := hrow'
      obtain ⟨c0, c1, c2, c3, c4, c5, c6, c7, c8, c9, c10, c11, hk⟩ := dfRow_get (hr.grow dfLen dfGr hg) us.length hlt
      have hsm := sm_mem LF.sz (List.getElem_mem hlt)
      clear hrow
      go_wp2_with fail
      refine (laws_toDef ks[us.length] _ hk (by omega)).mono ?_
      rintro e w1 ⟨u, rfl, hu, hnew, hg1⟩
      have HU := Lib.hid hu
      have HN := Lib.hid hnew
      clear hu hnew c0 c1 c2 c3 c4 c5 c6 c7 c8 c9 c10 c11
      have hF1 := HF.out.grow dfLen dfGr hg1
      obtain ⟨v0, x0⟩ := hF1.room hlt 0 (by omega)
      obtain ⟨v1, x1⟩ := hF1.room hlt 1 (by omega)
      obtain ⟨v2, x2⟩ := hF1.room hlt 2 (by omega)
      obtain ⟨v3, x3⟩ := hF1.room hlt 3 (by omega)
      obtain ⟨v4, x4⟩ := hF1.room hlt 4 (by omega)
      obtain ⟨v5, x5⟩ := hF1.room hlt 5 (by omega)
      obtain ⟨v6, x6⟩ := hF1.room hlt 6 (by omega)
      obtain ⟨v7, x7⟩ := hF1.room hlt 7 (by omega)
      obtain ⟨v8, x8⟩ := hF1.room hlt 8 (by omega)
      obtain ⟨v9, x9⟩ := hF1.room hlt 9 (by omega)
      obtain ⟨v10, x10⟩ := hF1.room hlt 10 (by omega)
      obtain ⟨v11, x11⟩ := hF1.room hlt 11 (by omega)
      rw [Nat.add_zero] at x0
      have y0 := hF1.free (us.length * 12)
      have y1 := hF1.free (us.length * 12 + 1)
      have y2 := hF1.free (us.length * 12 + 2)
      have y3 := hF1.free (us.length * 12 + 3)
      have y4 := hF1.free (us.length * 12 + 4)
      have y5 := hF1.free (us.length * 12 + 5)
      have y6 := hF1.free (us.length * 12 + 6)
      have y7 := hF1.free (us.length * 12 + 7)
      have y8 := hF1.free (us.length * 12 + 8)
      have y9 := hF1.free (us.length * 12 + 9)
      have y10 := hF1.free (us.length * 12 + 10)
      have y11 := hF1.free (us.length * 12 + 11)
      have HF1 := Lib.hid hF1
      clear hF1
      go_wp2_with fail
      go_roundw
      case rel =>
        have hl1 : us.length + 1 = (us ++ [u]).length := by simp
        refine ⟨us ++ [u], by rw [← hl1]; go_num, ?_, ?_, ?_⟩
        · rw [← hl1, List.take_succ_eq_append_getElem hlt, List.map_append, List.map_append, HT.out]; simp [HU.out]
        · have := HF1.out.put dfLen dfFr hlt HN.out (fun b hb => ((HF.out.2.2.2.2 b hb).2).lt) HF.out.lt
          exact this
        · exact (Below.setCell (Below.setCell (Below.setCell (Below.setCell (Below.setCell (Below.setCell (Below.setCell (Below.setCell (Below.setCell (Below.setCell (Below.setCell (Below.setCell (hg.trans hg1) (by simp) _) (by simp) _) (by simp) _) (by simp) _) (by simp) _) (by simp) _) (by simp) _) (by simp) _) (by simp) _) (by simp) _) (by simp) _) (by simp) _)
      case measure => simp [intOf]; omega
    · have hall : us.length = ks.length := by omega
      have HA := Lib.hid hall
      clear hall
      have hdone := HF.out.done (cap := ks.length) (B := w.heap.size) hj (by unfold maxLen; omega) (Nat.le_refl _)
      have HD := Lib.hid hdone
      clear hdone
      go_wp2_with fail
      go_ret
      exact ⟨us, _, ks.length, ret_sl HA.out.symm, by rw [HT.out, HA.out, List.take_length], HD.out, hg⟩

def ToP (w : World) (p : LP) (e : Ending) (w' : World) : Prop := ∃ q : LP, e = .returned q.val ∧ q.pr = p.pr ∧ NewSl dOk dbl w.heap.size w' q.da q.dc q.ds ∧ dfNew w.heap.size w' q.fa q.fc q.fs ∧ (∀ b ∈ nbl dbl q.da q.ds, b ∉ nbl dfB q.fa q.fs) ∧ Gw w w'

end Go.Proofs.Ytbbldkhlclfmkaa.Con
