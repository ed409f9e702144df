/-
  Contracts of the program's typeComparer and SameType. Condition: both types lie in blocks of cells.
-/
import Derived.Test.YtpafjhnamdeagabCmpTy
import Derived.Laws.EntriesVeiled
namespace Go.Proofs.Ytpafjhnamdeagab.Con.KType
open Go.RowKit Go.Proofs.Ytpafjhnamdeagab.Con
set_option linter.unusedVariables false

def cmpF (CK CN CM CF : Nat) : Value := .func (.func 38) #[] #[.pointer (some ⟨CK, 0, none⟩), .pointer (some ⟨CN, 0, none⟩), .pointer (some ⟨CM, 0, none⟩), .pointer (some ⟨CF, 0, none⟩)]
def TcPost (w : World) (e : Ending) (w' : World) : Prop := ∃ M CK CN CM CF, e = .returned (.func (.func 38) #[] #[.pointer (some ⟨CK, 0, none⟩), .pointer (some ⟨CN, 0, none⟩), .pointer (some ⟨CM, 0, none⟩), .pointer (some ⟨CF, 0, none⟩)]) ∧ Caps w' M CK CN CM CF ∧ Mp w' M (fun _ => False) ∧ Gw w w' ∧ w.heap.size ≤ M

set_option maxRecDepth 100000 in
theorem impl_tree (w : World) : Calls Try.prog 26 #[.func (.func 27) #[] #[], .func (.func 28) #[] #[]] w (TcPost w) := by
  have hmm := @run_makeMap Try.prog
  have gW : Gw w (((((w.alloc (.cells #[.func (.func 27) #[] #[]] 26)).alloc (.cells #[.func (.func 28) #[] #[]] 57)).alloc (.map #[] 0)).alloc (.cells #[.map (some (w.heap.size + 1 + 1))] 69)).alloc (.cells #[.nilFunc] 26)) := (((((Gw.refl w).alloc _).alloc _).alloc _).alloc _).alloc _
  have e0 : (((((w.alloc (.cells #[.func (.func 27) #[] #[]] 26)).alloc (.cells #[.func (.func 28) #[] #[]] 57)).alloc (.map #[] 0)).alloc (.cells #[.map (some (w.heap.size + 1 + 1))] 69)).alloc (.cells #[.nilFunc] 26)).heap[w.heap.size]? = some (.cells #[.func (.func 27) #[] #[]] 26 (0, 0)) := by
    rw [Below.heap_alloc _ _ _ (by simp <;> omega), Below.heap_alloc _ _ _ (by simp <;> omega), Below.heap_alloc _ _ _ (by simp <;> omega), Below.heap_alloc _ _ _ (by simp)]
    exact heap_alloc_new _ _
  have e1 : (((((w.alloc (.cells #[.func (.func 27) #[] #[]] 26)).alloc (.cells #[.func (.func 28) #[] #[]] 57)).alloc (.map #[] 0)).alloc (.cells #[.map (some (w.heap.size + 1 + 1))] 69)).alloc (.cells #[.nilFunc] 26)).heap[w.heap.size + 1]? = some (.cells #[.func (.func 28) #[] #[]] 57 (0, 0)) := by
    rw [Below.heap_alloc _ _ _ (by simp <;> omega), Below.heap_alloc _ _ _ (by simp <;> omega), Below.heap_alloc _ _ _ (by simp)]
    have := heap_alloc_new (w.alloc (.cells #[.func (.func 27) #[] #[]] 26)) (.cells #[.func (.func 28) #[] #[]] 57)
    rwa [World.size_alloc] at this
  have e2 : (((((w.alloc (.cells #[.func (.func 27) #[] #[]] 26)).alloc (.cells #[.func (.func 28) #[] #[]] 57)).alloc (.map #[] 0)).alloc (.cells #[.map (some (w.heap.size + 1 + 1))] 69)).alloc (.cells #[.nilFunc] 26)).heap[w.heap.size + 1 + 1]? = some (.map #[] 0) := by
    rw [Below.heap_alloc _ _ _ (by simp <;> omega), Below.heap_alloc _ _ _ (by simp)]
    have := heap_alloc_new ((w.alloc (.cells #[.func (.func 27) #[] #[]] 26)).alloc (.cells #[.func (.func 28) #[] #[]] 57)) (.map #[] 0)
    rwa [World.size_alloc, World.size_alloc] at this
  have e3 : (((((w.alloc (.cells #[.func (.func 27) #[] #[]] 26)).alloc (.cells #[.func (.func 28) #[] #[]] 57)).alloc (.map #[] 0)).alloc (.cells #[.map (some (w.heap.size + 1 + 1))] 69)).alloc (.cells #[.nilFunc] 26)).heap[w.heap.size + 1 + 1 + 1]? = some (.cells #[.map (some (w.heap.size + 1 + 1))] 69 (0, 0)) := by
    rw [Below.heap_alloc _ _ _ (by simp)]
    have := heap_alloc_new (((w.alloc (.cells #[.func (.func 27) #[] #[]] 26)).alloc (.cells #[.func (.func 28) #[] #[]] 57)).alloc (.map #[] 0)) (.cells #[.map (some (w.heap.size + 1 + 1))] 69)
    rwa [World.size_alloc, World.size_alloc, World.size_alloc] at this
  have e4 : (((((w.alloc (.cells #[.func (.func 27) #[] #[]] 26)).alloc (.cells #[.func (.func 28) #[] #[]] 57)).alloc (.map #[] 0)).alloc (.cells #[.map (some (w.heap.size + 1 + 1))] 69)).alloc (.cells #[.nilFunc] 26)).heap[w.heap.size + 1 + 1 + 1 + 1]? = some (.cells #[.nilFunc] 26 (0, 0)) := by
    have := heap_alloc_new ((((w.alloc (.cells #[.func (.func 27) #[] #[]] 26)).alloc (.cells #[.func (.func 28) #[] #[]] 57)).alloc (.map #[] 0)).alloc (.cells #[.map (some (w.heap.size + 1 + 1))] 69)) (.cells #[.nilFunc] 26)
    rwa [World.size_alloc, World.size_alloc, World.size_alloc, World.size_alloc] at this
  go_enter Try.func26, Try.ntmps26
  go_upto_region 3 with (fail)
  generalize (((((w.alloc (.cells #[.func (.func 27) #[] #[]] 26)).alloc (.cells #[.func (.func 28) #[] #[]] 57)).alloc (.map #[] 0)).alloc (.cells #[.map (some (w.heap.size + 1 + 1))] 69)).alloc (.cells #[.nilFunc] 26)) = W at *
  have x4 : W.cell? ⟨w.heap.size + 1 + 1 + 1 + 1, 0, none⟩ = some .nilFunc := cell_of_row _ _ 0 _ _ _ e4
  have z4 : W.frozen? ⟨w.heap.size + 1 + 1 + 1 + 1, 0, none⟩ = false := by simp [World.frozen?, e4]
  have s0 : (W.setCell ⟨w.heap.size + 1 + 1 + 1 + 1, 0, none⟩ (.func (.func 38) #[] #[.pointer (some ⟨w.heap.size + 1, 0, none⟩), .pointer (some ⟨w.heap.size, 0, none⟩), .pointer (some ⟨w.heap.size + 1 + 1 + 1, 0, none⟩), .pointer (some ⟨w.heap.size + 1 + 1 + 1 + 1, 0, none⟩)])).heap[w.heap.size]? = _ := (Below.heap_setCell _ _ _ _ (by simp <;> omega)).trans e0
  have s1 : (W.setCell ⟨w.heap.size + 1 + 1 + 1 + 1, 0, none⟩ (.func (.func 38) #[] #[.pointer (some ⟨w.heap.size + 1, 0, none⟩), .pointer (some ⟨w.heap.size, 0, none⟩), .pointer (some ⟨w.heap.size + 1 + 1 + 1, 0, none⟩), .pointer (some ⟨w.heap.size + 1 + 1 + 1 + 1, 0, none⟩)])).heap[w.heap.size + 1]? = _ := (Below.heap_setCell _ _ _ _ (by simp <;> omega)).trans e1
  have s2 : (W.setCell ⟨w.heap.size + 1 + 1 + 1 + 1, 0, none⟩ (.func (.func 38) #[] #[.pointer (some ⟨w.heap.size + 1, 0, none⟩), .pointer (some ⟨w.heap.size, 0, none⟩), .pointer (some ⟨w.heap.size + 1 + 1 + 1, 0, none⟩), .pointer (some ⟨w.heap.size + 1 + 1 + 1 + 1, 0, none⟩)])).heap[w.heap.size + 1 + 1]? = _ := (Below.heap_setCell _ _ _ _ (by simp <;> omega)).trans e2
  have s3 : (W.setCell ⟨w.heap.size + 1 + 1 + 1 + 1, 0, none⟩ (.func (.func 38) #[] #[.pointer (some ⟨w.heap.size + 1, 0, none⟩), .pointer (some ⟨w.heap.size, 0, none⟩), .pointer (some ⟨w.heap.size + 1 + 1 + 1, 0, none⟩), .pointer (some ⟨w.heap.size + 1 + 1 + 1 + 1, 0, none⟩)])).heap[w.heap.size + 1 + 1 + 1]? = _ := (Below.heap_setCell _ _ _ _ (by simp <;> omega)).trans e3
  have s4 : (W.setCell ⟨w.heap.size + 1 + 1 + 1 + 1, 0, none⟩ (.func (.func 38) #[] #[.pointer (some ⟨w.heap.size + 1, 0, none⟩), .pointer (some ⟨w.heap.size, 0, none⟩), .pointer (some ⟨w.heap.size + 1 + 1 + 1, 0, none⟩), .pointer (some ⟨w.heap.size + 1 + 1 + 1 + 1, 0, none⟩)])).heap[w.heap.size + 1 + 1 + 1 + 1]? = some (.cells #[(.func (.func 38) #[] #[.pointer (some ⟨w.heap.size + 1, 0, none⟩), .pointer (some ⟨w.heap.size, 0, none⟩), .pointer (some ⟨w.heap.size + 1 + 1 + 1, 0, none⟩), .pointer (some ⟨w.heap.size + 1 + 1 + 1 + 1, 0, none⟩)])] 26 (0, 0)) := by
    simp [World.setCell, Array.getElem?_modify, e4]
  have F := Lib.hid (show TcPost w (.returned (.func (.func 38) #[] #[.pointer (some ⟨w.heap.size + 1, 0, none⟩), .pointer (some ⟨w.heap.size, 0, none⟩), .pointer (some ⟨w.heap.size + 1 + 1 + 1, 0, none⟩), .pointer (some ⟨w.heap.size + 1 + 1 + 1 + 1, 0, none⟩)])) (W.setCell ⟨w.heap.size + 1 + 1 + 1 + 1, 0, none⟩ (.func (.func 38) #[] #[.pointer (some ⟨w.heap.size + 1, 0, none⟩), .pointer (some ⟨w.heap.size, 0, none⟩), .pointer (some ⟨w.heap.size + 1 + 1 + 1, 0, none⟩), .pointer (some ⟨w.heap.size + 1 + 1 + 1 + 1, 0, none⟩)])) from ⟨_, _, _, _, _, rfl, ⟨s1, s0, s3, s4⟩, ⟨_, _, s2, fun e he => by simp at he⟩, Below.setCell gW (by simp <;> omega) _, by omega⟩)
  clear gW e0 e1 e2 e3 e4 s0 s1 s2 s3 s4
  go_wp2_with fail
  go_ret
  exact F.out

theorem impl_tc (w : World) : Calls Try.prog 17 #[] w (TcPost w) := by
  have KEY := Lib.hid (impl_tree w)
  go_enter Try.func17, Try.ntmps17
  go_wp2_with fail
  refine KEY.out.mono ?_
  rintro e w1 ⟨M, CK, CN, CM, CF, rfl, h⟩
  have H := Lib.hid h
  clear h
  go_wp2_with fail
  go_ret
  exact ⟨M, CK, CN, CM, CF, rfl, H.out⟩

theorem FOk.new {B : Nat} {w : World} {t : LT} (h : t.New B w) : FOk w t := ⟨h.1, fun c hc => (h.2.2 c hc).2⟩

set_option maxRecDepth 100000 in
theorem impl_same (t u : LT) (B B' : Nat) (w : World) (ht : t.New B w) (hu : u.New B' w) : Calls Try.prog 8 #[t.val, u.val] w (SameGw t u w) := by
  have gA : Gw w ((w.alloc (.cells #[.int .i64 t.k, .string t.n, .slice t.a t.ks.length t.cap] 29)).alloc (.cells #[.int .i64 u.k, .string u.n, .slice u.a u.ks.length u.cap] 29)) := ((Gw.refl w).alloc _).alloc _
  have b1 := (Box.new w t 29).grow ((Gw.refl _).alloc (.cells #[.int .i64 u.k, .string u.n, .slice u.a u.ks.length u.cap] 29))
  have b2 := Box.new (w.alloc (.cells #[.int .i64 t.k, .string t.n, .slice t.a t.ks.length t.cap] 29)) u 29
  rw [World.size_alloc] at b2
  have hk := free_gw gA
  have FX := Lib.hid ((FOk.new ht).keep hk)
  have FY := Lib.hid ((FOk.new hu).keep hk)
  have GA := Lib.hid gA
  clear ht hu hk gA
  go_enter Try.func8, Try.ntmps8
  go_upto_region 1 with (fail)
  generalize ((w.alloc (.cells #[.int .i64 t.k, .string t.n, .slice t.a t.ks.length t.cap] 29)).alloc (.cells #[.int .i64 u.k, .string u.n, .slice u.a u.ks.length u.cap] 29)) = W1 at *
  have l1 := b1.lt
  have l2 := b2.lt
  obtain ⟨z0, z1, z2⟩ := b1.c
  obtain ⟨y0, y1, y2⟩ := b2.c
  go_region_held3 (fun W => W.cell? ⟨w.heap.size, 0, none⟩ = some (.int .i64 t.k) ∧ W.cell? ⟨w.heap.size, 1, none⟩ = some (.string t.n) ∧ W.cell? ⟨w.heap.size, 2, none⟩ = some (.slice t.a t.ks.length t.cap) ∧ W.cell? ⟨w.heap.size + 1, 0, none⟩ = some (.int .i64 u.k) ∧ W.cell? ⟨w.heap.size + 1, 1, none⟩ = some (.string u.n) ∧ W.cell? ⟨w.heap.size + 1, 2, none⟩ = some (.slice u.a u.ks.length u.cap))
    (first | exact ⟨z0, z1, z2, y0, y1, y2⟩ | exact ⟨(k2 _ _ l1).trans z0, (k2 _ _ l1).trans z1, (k2 _ _ l1).trans z2, (k2 _ _ l2).trans y0, (k2 _ _ l2).trans y1, (k2 _ _ l2).trans y2⟩ | exact ⟨(k3 _ _ l1).trans z0, (k3 _ _ l1).trans z1, (k3 _ _ l1).trans z2, (k3 _ _ l2).trans y0, (k3 _ _ l2).trans y1, (k3 _ _ l2).trans y2⟩)
    (first
      | (go_at_call 17; refine (impl_tc _).mono ?_; rintro e w2 ⟨M, CK, CN, CM, CF, rfl, hcap, hmp, g2, hM⟩; have k2 : ∀ b o, b < W1.heap.size → w2.cell? ⟨b, o, none⟩ = W1.cell? ⟨b, o, none⟩ := fun b o h => (bcell g2).1 b o h)
      | (go_at_call 38; refine (cmp_all t u _ M CK CN CM CF (fun _ => False) (by exact FX.out.keep (free_gw ((Gw.refl W1).drew.trans g2))) (by exact FY.out.keep (free_gw ((Gw.refl W1).drew.trans g2))) hcap hmp (fun v hv => hv.elim)).mono ?_; rintro e w3 ⟨r, rfl, hr, hc, _⟩; have k3 : ∀ b o, b < W1.heap.size → w3.cell? ⟨b, o, none⟩ = W1.cell? ⟨b, o, none⟩ := fun b o h => (World.cell?_of_block (a := ⟨b, o, none⟩) (hc.2.2.2.2 b (Nat.lt_of_lt_of_le h g2.size) (fun e => Nat.lt_irrefl _ (Nat.lt_of_lt_of_le (e ▸ h) hM)))).trans (k2 b o h)))
  have HR := Lib.hid hr
  have g3 : Gw W1.drew w2 := g2
  have hG : Gw W1 w3 := Below.trans ((Gw.refl W1).drew.trans g2) (hc.gw g2.size (fun b hb e => by have : b < W1.drew.heap.size := hb; omega))
  have HG := Lib.hid (GA.out.trans hG)
  clear hr hc hG g3 k2 k3 hcap hmp
  go_wp2_with fail
  go_ret
  exact ⟨r, rfl, HR.out, HG.out⟩

end Go.Proofs.Ytpafjhnamdeagab.Con.KType
