/-
  Contracts of the program's typeComparer and SameType. Condition: both types lie in blocks of cells.
-/
import Derived.Test.YtpafjhnamdeagaaCmpTy
import Derived.Laws.EntriesVeiled
namespace Go.Proofs.Ytpafjhnamdeagaa.Con.KType
open Go.RowKit Go.Proofs.Ytpafjhnamdeagaa.Con
set_option linter.unusedVariables false

def cmpF (CK CN CM CF : Nat) : Value := .func (.func 94) #[] #[.pointer (some ⟨CK, 0, none⟩), .pointer (some ⟨CN, 0, none⟩), .pointer (some ⟨CM, 0, none⟩), .pointer (some ⟨CF, 0, none⟩)]
def TcPost (w : World) (e : Ending) (w' : World) : Prop := ∃ M CK CN CM CF, e = .returned (.func (.func 94) #[] #[.pointer (some ⟨CK, 0, none⟩), .pointer (some ⟨CN, 0, none⟩), .pointer (some ⟨CM, 0, none⟩), .pointer (some ⟨CF, 0, none⟩)]) ∧ Caps w' M CK CN CM CF ∧ Mp w' M (fun _ => False) ∧ Gw w w' ∧ w.heap.size ≤ M

set_option maxRecDepth 100000 in
theorem impl_tree (w : World) : Calls Try.prog 64 #[.func (.func 65) #[] #[], .func (.func 66) #[] #[]] w (TcPost w) := by
  have hmm := @run_makeMap Try.prog
  have gW : Gw w (((((w.alloc (.cells #[.func (.func 65) #[] #[]] 68)).alloc (.cells #[.func (.func 66) #[] #[]] 106)).alloc (.map #[] 0)).alloc (.cells #[.map (some (w.heap.size + 1 + 1))] 141)).alloc (.cells #[.nilFunc] 68)) := (((((Gw.refl w).alloc _).alloc _).alloc _).alloc _).alloc _
  have e0 : (((((w.alloc (.cells #[.func (.func 65) #[] #[]] 68)).alloc (.cells #[.func (.func 66) #[] #[]] 106)).alloc (.map #[] 0)).alloc (.cells #[.map (some (w.heap.size + 1 + 1))] 141)).alloc (.cells #[.nilFunc] 68)).heap[w.heap.size]? = some (.cells #[.func (.func 65) #[] #[]] 68 (0, 0)) := by
    rw [Below.heap_alloc _ _ _ (by simp <;> omega), Below.heap_alloc _ _ _ (by simp <;> omega), Below.heap_alloc _ _ _ (by simp <;> omega), Below.heap_alloc _ _ _ (by simp)]
    exact heap_alloc_new _ _
  have e1 : (((((w.alloc (.cells #[.func (.func 65) #[] #[]] 68)).alloc (.cells #[.func (.func 66) #[] #[]] 106)).alloc (.map #[] 0)).alloc (.cells #[.map (some (w.heap.size + 1 + 1))] 141)).alloc (.cells #[.nilFunc] 68)).heap[w.heap.size + 1]? = some (.cells #[.func (.func 66) #[] #[]] 106 (0, 0)) := by
    rw [Below.heap_alloc _ _ _ (by simp <;> omega), Below.heap_alloc _ _ _ (by simp <;> omega), Below.heap_alloc _ _ _ (by simp)]
    have := heap_alloc_new (w.alloc (.cells #[.func (.func 65) #[] #[]] 68)) (.cells #[.func (.func 66) #[] #[]] 106)
    rwa [World.size_alloc] at this
  have e2 : (((((w.alloc (.cells #[.func (.func 65) #[] #[]] 68)).alloc (.cells #[.func (.func 66) #[] #[]] 106)).alloc (.map #[] 0)).alloc (.cells #[.map (some (w.heap.size + 1 + 1))] 141)).alloc (.cells #[.nilFunc] 68)).heap[w.heap.size + 1 + 1]? = some (.map #[] 0) := by
    rw [Below.heap_alloc _ _ _ (by simp <;> omega), Below.heap_alloc _ _ _ (by simp)]
    have := heap_alloc_new ((w.alloc (.cells #[.func (.func 65) #[] #[]] 68)).alloc (.cells #[.func (.func 66) #[] #[]] 106)) (.map #[] 0)
    rwa [World.size_alloc, World.size_alloc] at this
  have e3 : (((((w.alloc (.cells #[.func (.func 65) #[] #[]] 68)).alloc (.cells #[.func (.func 66) #[] #[]] 106)).alloc (.map #[] 0)).alloc (.cells #[.map (some (w.heap.size + 1 + 1))] 141)).alloc (.cells #[.nilFunc] 68)).heap[w.heap.size + 1 + 1 + 1]? = some (.cells #[.map (some (w.heap.size + 1 + 1))] 141 (0, 0)) := by
    rw [Below.heap_alloc _ _ _ (by simp)]
    have := heap_alloc_new (((w.alloc (.cells #[.func (.func 65) #[] #[]] 68)).alloc (.cells #[.func (.func 66) #[] #[]] 106)).alloc (.map #[] 0)) (.cells #[.map (some (w.heap.size + 1 + 1))] 141)
    rwa [World.size_alloc, World.size_alloc, World.size_alloc] at this
  have e4 : (((((w.alloc (.cells #[.func (.func 65) #[] #[]] 68)).alloc (.cells #[.func (.func 66) #[] #[]] 106)).alloc (.map #[] 0)).alloc (.cells #[.map (some (w.heap.size + 1 + 1))] 141)).alloc (.cells #[.nilFunc] 68)).heap[w.heap.size + 1 + 1 + 1 + 1]? = some (.cells #[.nilFunc] 68 (0, 0)) := by
    have := heap_alloc_new ((((w.alloc (.cells #[.func (.func 65) #[] #[]] 68)).alloc (.cells #[.func (.func 66) #[] #[]] 106)).alloc (.map #[] 0)).alloc (.cells #[.map (some (w.heap.size + 1 + 1))] 141)) (.cells #[.nilFunc] 68)
    rwa [World.size_alloc, World.size_alloc, World.size_alloc, World.size_alloc] at this
  go_enter Try.func64, Try.ntmps64
  go_upto_region 3 with (fail)
  generalize (((((w.alloc (.cells #[.func (.func 65) #[] #[]] 68)).alloc (.cells #[.func (.func 66) #[] #[]] 106)).alloc (.map #[] 0)).alloc (.cells #[.map (some (w.heap.size + 1 + 1))] 141)).alloc (.cells #[.nilFunc] 68)) = W at *
  have x4 : W.cell? ⟨w.heap.size + 1 + 1 + 1 + 1, 0, none⟩ = some .nilFunc := cell_of_row _ _ 0 _ _ _ e4
  have z4 : W.frozen? ⟨w.heap.size + 1 + 1 + 1 + 1, 0, none⟩ = false := by simp [World.frozen?, e4]
  have s0 : (W.setCell ⟨w.heap.size + 1 + 1 + 1 + 1, 0, none⟩ (.func (.func 94) #[] #[.pointer (some ⟨w.heap.size + 1, 0, none⟩), .pointer (some ⟨w.heap.size, 0, none⟩), .pointer (some ⟨w.heap.size + 1 + 1 + 1, 0, none⟩), .pointer (some ⟨w.heap.size + 1 + 1 + 1 + 1, 0, none⟩)])).heap[w.heap.size]? = _ := (Below.heap_setCell _ _ _ _ (by simp <;> omega)).trans e0
  have s1 : (W.setCell ⟨w.heap.size + 1 + 1 + 1 + 1, 0, none⟩ (.func (.func 94) #[] #[.pointer (some ⟨w.heap.size + 1, 0, none⟩), .pointer (some ⟨w.heap.size, 0, none⟩), .pointer (some ⟨w.heap.size + 1 + 1 + 1, 0, none⟩), .pointer (some ⟨w.heap.size + 1 + 1 + 1 + 1, 0, none⟩)])).heap[w.heap.size + 1]? = _ := (Below.heap_setCell _ _ _ _ (by simp <;> omega)).trans e1
  have s2 : (W.setCell ⟨w.heap.size + 1 + 1 + 1 + 1, 0, none⟩ (.func (.func 94) #[] #[.pointer (some ⟨w.heap.size + 1, 0, none⟩), .pointer (some ⟨w.heap.size, 0, none⟩), .pointer (some ⟨w.heap.size + 1 + 1 + 1, 0, none⟩), .pointer (some ⟨w.heap.size + 1 + 1 + 1 + 1, 0, none⟩)])).heap[w.heap.size + 1 + 1]? = _ := (Below.heap_setCell _ _ _ _ (by simp <;> omega)).trans e2
  have s3 : (W.setCell ⟨w.heap.size + 1 + 1 + 1 + 1, 0, none⟩ (.func (.func 94) #[] #[.pointer (some ⟨w.heap.size + 1, 0, none⟩), .pointer (some ⟨w.heap.size, 0, none⟩), .pointer (some ⟨w.heap.size + 1 + 1 + 1, 0, none⟩), .pointer (some ⟨w.heap.size + 1 + 1 + 1 + 1, 0, none⟩)])).heap[w.heap.size + 1 + 1 + 1]? = _ := (Below.heap_setCell _ _ _ _ (by simp <;> omega)).trans e3
  have s4 : (W.setCell ⟨w.heap.size + 1 + 1 + 1 + 1, 0, none⟩ (.func (.func 94) #[] #[.pointer (some ⟨w.heap.size + 1, 0, none⟩), .pointer (some ⟨w.heap.size, 0, none⟩), .pointer (some ⟨w.heap.size + 1 + 1 + 1, 0, none⟩), .pointer (some ⟨w.heap.size + 1 + 1 + 1 + 1, 0, none⟩)])).heap[w.heap.size + 1 + 1 + 1 + 1]? = some (.cells #[(.func (.func 94) #[] #[.pointer (some ⟨w.heap.size + 1, 0, none⟩), .pointer (some ⟨w.heap.size, 0, none⟩), .pointer (some ⟨w.heap.size + 1 + 1 + 1, 0, none⟩), .pointer (some ⟨w.heap.size + 1 + 1 + 1 + 1, 0, none⟩)])] 68 (0, 0)) := by
    simp [World.setCell, Array.getElem?_modify, e4]
  have F := Lib.hid (show TcPost w (.returned (.func (.func 94) #[] #[.pointer (some ⟨w.heap.size + 1, 0, none⟩), .pointer (some ⟨w.heap.size, 0, none⟩), .pointer (some ⟨w.heap.size + 1 + 1 + 1, 0, none⟩), .pointer (some ⟨w.heap.size + 1 + 1 + 1 + 1, 0, none⟩)])) (W.setCell ⟨w.heap.size + 1 + 1 + 1 + 1, 0, none⟩ (.func (.func 94) #[] #[.pointer (some ⟨w.heap.size + 1, 0, none⟩), .pointer (some ⟨w.heap.size, 0, none⟩), .pointer (some ⟨w.heap.size + 1 + 1 + 1, 0, none⟩), .pointer (some ⟨w.heap.size + 1 + 1 + 1 + 1, 0, none⟩)])) from ⟨_, _, _, _, _, rfl, ⟨s1, s0, s3, s4⟩, ⟨_, _, s2, fun e he => by simp at he⟩, Below.setCell gW (by simp <;> omega) _, by omega⟩)
  clear gW e0 e1 e2 e3 e4 s0 s1 s2 s3 s4
  go_wp2_with fail
  go_ret
  exact F.out

theorem impl_tc (w : World) : Calls Try.prog 30 #[] w (TcPost w) := by
  have KEY := Lib.hid (impl_tree w)
  go_enter Try.func30, Try.ntmps30
  go_wp2_with fail
  refine KEY.out.mono ?_
  rintro e w1 ⟨M, CK, CN, CM, CF, rfl, h⟩
  have H := Lib.hid h
  clear h
  go_wp2_with fail
  go_ret
  exact ⟨M, CK, CN, CM, CF, rfl, H.out⟩

theorem FOk.new {B : Nat} {w : World} {t : LT} (h : t.New B w) : FOk w t := ⟨h.1, fun c hc => (h.2.2 c hc).2⟩

end Go.Proofs.Ytpafjhnamdeagaa.Con.KType
