/-
  Contract of the model's l02Own: a type is copied into new memory. No condition but that the type lies in memory.
-/
import Derived.Test.YtbbldkhlclfmkaaTyApp
import Derived.Deep.RegionHeld3
import Derived.Deep.DrawnRows
import Derived.Test.YtbbldkhlclfmkaaStep
namespace Go.Proofs.Ytbbldkhlclfmkaa.Con
open Go.RowKit
set_option linter.unusedVariables false
attribute [local go_sem ↓] Go.wp_at_zero Go.wp_at_succ

theorem after_call {wr w1 : World} {x y z : Nat} (hg1 : Gw wr.drew w1) (hx : x < wr.heap.size) (hy : y < wr.heap.size) (hz : z < wr.heap.size) :
    Gw wr w1 ∧ (∀ b o, b < wr.heap.size → w1.cell? ⟨b, o, none⟩ = wr.cell? ⟨b, o, none⟩) ∧ x < w1.heap.size ∧ y < w1.heap.size ∧ z < w1.heap.size :=
  ⟨⟨hg1.os, hg1.tape, hg1.output, hg1.size, hg1.block⟩, fun b o h => (bcell hg1).1 b o h, Nat.lt_of_lt_of_le hx hg1.size, Nat.lt_of_lt_of_le hy hg1.size, Nat.lt_of_lt_of_le hz hg1.size⟩

theorem one3 (k : Int) (n : ByteArray) (a : Option Addr) (l c : Nat) : ∀ u ∈ [Value.int .i64 k, .string n, .slice a l c], u.oneCell' = true := by
  intro u hu
  simp at hu
  rcases hu with rfl | rfl | rfl <;> rfl

theorem le_max3 {n m : Nat} (h : n < m) (hm : m ≤ 1048576) : n + 1 ≤ maxLen := by unfold maxLen; omega
theorem le_base {w wr w1 : World} {o : Obj} (h : Gw wr w1) (hl : w.heap.size + 1 + 1 < wr.heap.size) : w.heap.size + 3 ≤ (w1.alloc o).heap.size := by have := h.size; simp; omega

theorem after_append {w wr w1 w2 : World} {v : Value} {o : Obj} {cs : Array Value} (hgr : (w1.alloc o).grownBy w2 v.ownBlock) (hg : Gw wr w1) (hl : w.heap.size + 1 + 1 < wr.heap.size) (hv : ∀ x, v.ownBlock = some x → w.heap.size + 3 ≤ x) (hb : wr.heap[w.heap.size + 1 + 1]? = some (.cells cs 29 (0, 0))) :
    (∀ b o, b < w.heap.size + 3 → w2.cell? ⟨b, o, none⟩ = wr.cell? ⟨b, o, none⟩) ∧ w2.frozen? ⟨w.heap.size + 1 + 1, 2, none⟩ = false := by
  have hs := hg.size
  have key : ∀ b, b < w.heap.size + 3 → w2.heap[b]? = wr.heap[b]? := fun b h => (hgr.block b (by simp; omega) (fun e => by have := hv b e.symm; omega)).trans ((Below.heap_alloc _ _ _ (by omega)).trans (hg.block b (by omega)))
  refine ⟨fun b o h => World.cell?_of_block (a := ⟨b, o, none⟩) (key b h), ?_⟩
  simp [World.frozen?, key (w.heap.size + 1 + 1) (by omega), hb]

def OwnRel (w : World) (t : LT) (i : Value) (wr : World) : Prop := ∃ (us : List LT) (v : Value), i = .int .i64 us.length ∧ us.map LT.ty = (t.ks.take us.length).map LT.ty ∧ App (w.heap.size + 3) wr v us ∧
  wr.heap[w.heap.size]? = some (.cells #[.int .i64 t.k, .string t.n, .slice t.a t.ks.length t.cap] 29 (0, 0)) ∧ wr.heap[w.heap.size + 1]? = some (.cells #[.int .i64 0, .string ⟨#[]⟩, .slice none 0 0] 29 (0, 0)) ∧
  wr.heap[w.heap.size + 1 + 1]? = some (.cells #[.int .i64 t.k, .string t.n, v] 29 (0, 0)) ∧ Gw w wr

theorem own_next {w wr w1 w2 : World} {t u : LT} {us : List LT} {va : Option Addr} {vc g cap : Nat} {O : Obj} (HT : us.map LT.ty = (t.ks.take us.length).map LT.ty) (HA : App (w.heap.size + 3) wr (.slice va us.length vc) us)
    (hb0 : wr.heap[w.heap.size]? = some (.cells #[.int .i64 t.k, .string t.n, .slice t.a t.ks.length t.cap] 29 (0, 0))) (hb1 : wr.heap[w.heap.size + 1]? = some (.cells #[.int .i64 0, .string ⟨#[]⟩, .slice none 0 0] 29 (0, 0)))
    (hb2 : wr.heap[w.heap.size + 1 + 1]? = some (.cells #[.int .i64 t.k, .string t.n, .slice va us.length vc] 29 (0, 0))) (hg : Gw w wr) (hlt : us.length < t.ks.length) (hg1 : Gw wr w1) (HU : u.ty = t.ks[us.length].ty) (HN : u.New wr.heap.size w1)
    (HO : w2.ownsRow (w.heap.size + 3) 29 3 (.slice (some ⟨g, 0, none⟩) (us.length + 1) cap) (us.length + 1) (cellsL us ++ [.int .i64 u.k, .string u.n, .slice u.a u.ks.length u.cap])) (HG : (w1.alloc O).grownBy w2 (Value.slice va us.length vc).ownBlock)
    (HAT : (Value.slice va us.length vc).ownBlock = some g ∨ g = (w1.alloc O).heap.size) : OwnRel w t (.int .i64 (us.length + 1)) (w2.setCell ⟨w.heap.size + 1 + 1, 2, none⟩ (.slice (some ⟨g, 0, none⟩) (us.length + 1) cap)) := by
  have hlx : w.heap.size + 1 + 1 < wr.heap.size := (Array.getElem?_eq_some_iff.1 hb2).1
  have hs := hg1.size
  have hgA : Gw wr (w1.alloc O) := hg1.alloc O
  have hv : ∀ x, (Value.slice va us.length vc).ownBlock = some x → w.heap.size + 3 ≤ x := fun x hx => (HA.1.lt x hx).1
  have key : ∀ b, b < w.heap.size + 3 → w2.heap[b]? = wr.heap[b]? := fun b h => (HG.block b (by simp; omega) (fun e => by have := hv b e.symm; omega)).trans (hgA.block b (by omega))
  have hnx : u.New wr.heap.size (w1.alloc O) := HN.grow ((Below.refl _ _).alloc (Nat.le_refl _) _)
  have hA2 := App.push HA hgA hnx (Nat.le_refl _) (by omega) HO HG (HAT.imp id (fun e => by omega))
  have hfar : ∀ b, b ≠ w.heap.size + 1 + 1 → (w2.setCell ⟨w.heap.size + 1 + 1, 2, none⟩ (.slice (some ⟨g, 0, none⟩) (us.length + 1) cap)).heap[b]? = w2.heap[b]? := fun b hb => Below.heap_setCell _ _ _ _ hb
  have hgB : Below w.heap.size w w2 := Below.trans hg ⟨HG.os.trans hgA.os, HG.tape.trans hgA.tape, HG.output.trans hgA.output, Nat.le_trans hgA.size HG.size, fun b hb => key b (by omega)⟩
  refine ⟨us ++ [u], .slice (some ⟨g, 0, none⟩) (us.length + 1) cap, by rw [List.length_append]; rfl, ?_, ?_, ?_, ?_, ?_, ?_⟩
  · rw [List.length_append, List.length_singleton, List.take_succ_eq_append_getElem hlt, List.map_append, List.map_append, HT]; simp [HU]
  · refine hA2.far _ (fun hm => ?_) (fun e => ?_) _
    · have := (hA2.2.2.2 _ hm).1; simp at this; omega
    · have := (hA2.1.lt _ e).1; simp at this; omega
  · rw [hfar _ (by omega), key _ (by omega)]; exact hb0
  · rw [hfar _ (by omega), key _ (by omega)]; exact hb1
  · have := (key (w.heap.size + 1 + 1) (by omega)).trans hb2
    simp [World.setCell, Array.getElem?_modify, this]
  · exact Below.setCell hgB (by show w.heap.size ≤ w.heap.size + 1 + 1; omega) _

theorem heap_alloc_new' (w : World) (o : Obj) {i : Nat} (h : w.heap.size = i) : (w.alloc o).heap[i]? = some o := by subst h; exact heap_alloc_new w o

end Go.Proofs.Ytbbldkhlclfmkaa.Con
