/-
  What the walks of exact laws (tools/mklaw2.py) use of every kind of argument: boxes, and copies, comparisons, marks of core terms and books under common names. Condition: all lies in memory and is not too large.
-/
import Derived.Test.YtkpbiifikkbaeaaDoorCoMk
import Derived.Test.YtkpbiifikkbaeaaDoorBk
import Derived.Deep.CutRange
namespace Go.Proofs.YtkpbiifikkbaeaaDoor.Con
open Go.RowKit
set_option linter.unusedVariables false

/-- A block that holds an element. -/
def bAt {α : Type} (cE : α → List Value) (w : World) (b : Nat) (x : α) : Prop := ∃ (cs : Array Value) (e : TypeId), w.heap[b]? = some (.cells cs e (0, 0)) ∧ cs.toList = cE x
theorem bAt.new {α : Type} {cE : α → List Value} {w : World} {x : α} {cs : Array Value} {e : TypeId} (hc : cs.toList = cE x) : bAt cE (w.alloc (.cells cs e)) w.heap.size x := ⟨cs, e, heap_alloc_new w _, hc⟩
theorem bAt.lt {α : Type} {cE : α → List Value} {w : World} {b : Nat} {x : α} (h : bAt cE w b x) : b < w.heap.size := by
  obtain ⟨cs, e, h, _⟩ := h
  exact (Array.getElem?_eq_some_iff.1 h).1
theorem bAt.grow {α : Type} {cE : α → List Value} {w w' : World} {b : Nat} {x : α} (h : bAt cE w b x) (g : Gw w w') : bAt cE w' b x := by
  have hl := h.lt
  obtain ⟨cs, e, h, hc⟩ := h
  exact ⟨cs, e, (g.block b hl).trans h, hc⟩
theorem bAt.chg {α : Type} {cE : α → List Value} {w w' : World} {S : Nat → Prop} {b : Nat} {x : α} (h : bAt cE w b x) (hc : Chg w w' S) (hb : ¬ S b) : bAt cE w' b x := by
  have hl := h.lt
  obtain ⟨cs, e, h, hcs⟩ := h
  exact ⟨cs, e, (hc.2.2.2.2 b hl hb).trans h, hcs⟩
theorem bAt.c {α : Type} {cE : α → List Value} {w : World} {b : Nat} {x : α} (h : bAt cE w b x) (j : Nat) (v : Value) (hv : (cE x)[j]? = some v) : w.cell? ⟨b, j, none⟩ = some v := by
  obtain ⟨cs, e, h, hcs⟩ := h
  rw [cell_of_row _ _ j _ _ _ h, ← Array.getElem?_toList, hcs]
  exact hv
/-- A block with known cells that may be written. -/
def zAt (w : World) (T : Nat) (cs : Array Value) (e : TypeId) : Prop := True ∧ w.heap[T]? = some (.cells cs e (0, 0))
theorem zAt.new (w : World) (cs : Array Value) (e : TypeId) : zAt (w.alloc (.cells cs e)) w.heap.size cs e := ⟨trivial, heap_alloc_new w _⟩
theorem zAt.lt {w : World} {T : Nat} {cs : Array Value} {e : TypeId} (h : zAt w T cs e) : T < w.heap.size := (Array.getElem?_eq_some_iff.1 h.2).1
theorem zAt.grow {w w' : World} {T : Nat} {cs : Array Value} {e : TypeId} (h : zAt w T cs e) (g : Gw w w') : zAt w' T cs e := ⟨trivial, (g.block T h.lt).trans h.2⟩
theorem zAt.c {w : World} {T : Nat} {cs : Array Value} {e : TypeId} (h : zAt w T cs e) (j : Nat) (v : Value) (hv : cs[j]? = some v) : w.cell? ⟨T, j, none⟩ = some v := by
  rw [cell_of_row _ _ j _ _ _ h.2]; exact hv
theorem zAt.fz {w : World} {T : Nat} {cs : Array Value} {e : TypeId} (h : zAt w T cs e) (j : Nat) : w.frozen? ⟨T, j, none⟩ = false := by simp [World.frozen?, h.2]
theorem gNew.chg {α : Type} {ok : World → α → Prop} {cb : α → List Nat} (hf : gFr ok cb) {B : Nat} {w w' : World} {S : Nat → Prop} {x : α} (h : gNew ok cb B w x) (hc : Chg w w' S) (hS : ∀ b ∈ cb x, ¬ S b) : gNew ok cb B w' x :=
  gNew.same hf h fun y hy => hc.2.2.2.2 y (h.2.2 y hy).2.lt (hS y hy)

def mc_Core (x : LK) : Nat := x.ds.length + mcs x.ks
theorem mc_core_eq (x : LK) : x.mcn = mc_Core x + 2 := by rw [mcn_eq]; unfold mc_Core; omega
theorem mcle_Core {x a : LK} (h : x.co = a.co) : mc_Core x ≤ 3 * a.sz + 16 := by
  have h1 := mcn_sz a
  have h2 := mc_core_eq x
  rw [mcn_co, h, ← mcn_co] at h2
  omega
theorem mark_Core (u : LK) (B : Nat) (w : World) (k : Nat) (h : gNew LK.Ok LK.bl B w u) (h1 : 1 ≤ k) (h2 : k + mc_Core u ≤ 7999990) :
    Calls Tryd.prog 20 #[u.val, .int .i64 k] w fun e w' => e = .returned (.int .i64 ((k + mc_Core u : Nat) : Int)) ∧ (∀ W, Gw w' W → Calls Tryd.prog 96 #[u.val, .int .i64 k] W (HdN W (k + mc_Core u))) ∧ Chg w w' (fun x => x ∈ u.bl) := by
  have hm := mc_core_eq u
  have ht : (mkc u.ks (k + u.ds.length)).2 = k + mc_Core u := by rw [(mkc_len u.ks _).1]; unfold mc_Core; omega
  refine (laws_markK u B w k h h1 (by omega)).mono ?_
  rintro e w' ⟨rfl, SL, hc⟩
  refine ⟨by rw [ht], fun W g => ?_, hc⟩
  have := laws_heldK u W k (SL.1.grow g) h1 (by omega)
  rwa [ht] at this

def bkE (u : LB) : List Value := [.slice u.a u.ks.length u.cap]
def bkB (u : LB) : List Nat := nbl LK.bl u.a u.ks
theorem bkLen (u : LB) : (bkE u).length = 1 := rfl
theorem bkGr : gGr bOk := fun w w' u h g => gSl.grow coLen coGr h g
theorem bkFr : gFr bOk bkB := fun w w' u h hb => gSl.frame (by decide) coLen coFr h hb
def ToBk (w : World) (t : LB) (e : Ending) (w' : World) : Prop := ∃ u : LB, e = .returned u.val ∧ u.cs = t.cs ∧ gNew bOk bkB w.heap.size w' u ∧ Gw w w'
theorem ly_toBook (t : LB) (w : World) (h : bOk w t) (hs : t.sz ≤ 1048576) : Calls Tryd.prog 9 #[t.val] w (ToBk w t) :=
  (laws_toBook t w h hs).mono fun e w' ⟨u, he, hu, hn, g⟩ => ⟨u, he, hu, ⟨hn.1, hn.2.1, fun b hb => ⟨by have := (hn.2.2 b hb).1; omega, (hn.2.2 b hb).2⟩⟩, g⟩
def mc_Book (u : LB) : Nat := mcs u.ks
theorem mcs_cs : ∀ ks : List LK, mcs ks = Co.mc.mcl (ks.map LK.co)
  | [] => by rw [mcs_nil]; rfl
  | t :: ts => by rw [mcs_cons, mcn_co, mcs_cs ts]; rfl
theorem mcs_szl : ∀ ks : List LK, mcs ks ≤ 2 * sm LK.sz ks
  | [] => by rw [mcs_nil]; omega
  | t :: ts => by
    have h1 := mcn_sz t
    have h2 := mcs_szl ts
    rw [mcs_cons, sm_cons]; omega
theorem mcle_Book {x a : LB} (h : x.cs = a.cs) : mc_Book x ≤ 3 * a.sz + 16 := by
  have h1 := mcs_szl a.ks
  have h2 : mcs x.ks = mcs a.ks := by
    rw [mcs_cs, mcs_cs]
    exact congrArg Co.mc.mcl h
  have h3 : a.sz = sm LK.sz a.ks := rfl
  unfold mc_Book
  omega
theorem ly_markB (u : LB) (B : Nat) (w : World) (k : Nat) (h : coNew B w u.a u.cap u.ks) (h1 : 1 ≤ k) (h2 : k + mcs u.ks ≤ 8000000) : Calls Tryd.prog 19 #[u.val, .int .i64 k] w fun e w' => e = .returned (.int .i64 ((mkc u.ks k).2 : Nat)) ∧ coNew B w' u.a u.cap (mkc u.ks k).1 ∧ Chg w w' (fun x => x ∈ nbl LK.bl u.a u.ks) := by
  have g0 := (Gw.refl w).alloc (.cells #[.slice u.a u.ks.length u.cap] 39)
  have BX := BoxB.new w u 39
  have KM := Lib.hid (laws_markKS u.ks B _ u.a u.cap k (gNewSl.grow coLen coGr h g0) h1 h2)
  have G0 := Lib.hid g0
  have c0 := BX.c
  clear h g0 BX
  go_enter Tryd.func19, Tryd.ntmps19
  go_upto_region 1 with (fail)
  generalize w.alloc (.cells #[.slice u.a u.ks.length u.cap] 39) = w1 at *
  go_wp2_with fail
  refine KM.out.mono ?_
  rintro e w2 ⟨rfl, hn, hc⟩
  have F := Lib.hid (And.intro hn ((Chg.of_gw G0.out (fun x => x ∈ nbl LK.bl u.a u.ks)).trans hc (fun _ _ e => e)))
  clear hn hc KM c0
  go_wp2_with fail
  go_ret
  exact ⟨rfl, F.out⟩
theorem mark_Book (u : LB) (B : Nat) (w : World) (k : Nat) (h : gNew bOk bkB B w u) (h1 : 1 ≤ k) (h2 : k + mc_Book u ≤ 7999990) :
    Calls Tryd.prog 19 #[u.val, .int .i64 k] w fun e w' => e = .returned (.int .i64 ((k + mc_Book u : Nat) : Int)) ∧ True ∧ Chg w w' (fun x => x ∈ bkB u) := by
  have ht : (mkc u.ks k).2 = k + mc_Book u := (mkc_len u.ks _).1
  refine (ly_markB u B w k ⟨h.1, h.2.1, h.2.2⟩ h1 (by unfold mc_Book at h2; omega)).mono ?_
  rintro e w' ⟨rfl, _, hc⟩
  exact ⟨by rw [ht], trivial, hc⟩

end Go.Proofs.YtkpbiifikkbaeaaDoor.Con
