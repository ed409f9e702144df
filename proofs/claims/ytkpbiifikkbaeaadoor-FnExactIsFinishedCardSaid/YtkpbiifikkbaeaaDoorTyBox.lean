/-
  What may turn while a call runs ('Chg'), and a block that holds a type ('Box'). No program in it, no condition.
-/
import Derived.Test.YtkpbiifikkbaeaaDoorTyTo
import Derived.Test.YtkpbiifikkbaeaaDoorTyNew
import Derived.OwnWalk
namespace Go.Proofs.YtkpbiifikkbaeaaDoor.Con
open Go.RowKit
set_option linter.unusedVariables false

/-- What may turn lies in S, or is new. -/
def Chg (w w' : World) (S : Nat → Prop) : Prop := w'.os = w.os ∧ w'.tape = w.tape ∧ w'.output = w.output ∧ w.heap.size ≤ w'.heap.size ∧ ∀ b, b < w.heap.size → ¬ S b → w'.heap[b]? = w.heap[b]?

theorem Chg.of_gw {w w' : World} (h : Gw w w') (S : Nat → Prop) : Chg w w' S := ⟨h.os, h.tape, h.output, h.size, fun b hb _ => h.block b hb⟩
theorem Chg.gw {w w' : World} {S : Nat → Prop} {B : Nat} (h : Chg w w' S) (hB : B ≤ w.heap.size) (hS : ∀ b, b < B → ¬ S b) : Below B w w' := ⟨h.1, h.2.1, h.2.2.1, h.2.2.2.1, fun b hb => h.2.2.2.2 b (Nat.lt_of_lt_of_le hb hB) (hS b hb)⟩
theorem Chg.trans {a b c : World} {S T : Nat → Prop} (h : Chg a b S) (k : Chg b c T) (hT : ∀ x, x < a.heap.size → T x → S x) : Chg a c S :=
  ⟨k.1.trans h.1, k.2.1.trans h.2.1, k.2.2.1.trans h.2.2.1, Nat.le_trans h.2.2.2.1 k.2.2.2.1, fun x hx hn => (k.2.2.2.2 x (Nat.lt_of_lt_of_le hx h.2.2.2.1) fun ht => hn (hT x hx ht)).trans (h.2.2.2.2 x hx hn)⟩
theorem Chg.set {a b : World} {S : Nat → Prop} (h : Chg a b S) (p : Addr) (v : Value) (hp : p.block < a.heap.size → S p.block) : Chg a (b.setCell p v) S :=
  ⟨h.1, h.2.1, h.2.2.1, by simpa [World.setCell] using h.2.2.2.1, fun x hx hn => (Below.heap_setCell b p v x (fun e => hn (by subst e; exact hp hx))).trans (h.2.2.2.2 x hx hn)⟩
theorem Chg.alloc {a b : World} {S : Nat → Prop} (h : Chg a b S) (o : Obj) : Chg a (b.alloc o) S :=
  ⟨h.1, h.2.1, h.2.2.1, Nat.le_trans h.2.2.2.1 (by simp), fun x hx hn => (Below.heap_alloc b o x (Nat.lt_of_lt_of_le hx h.2.2.2.1)).trans (h.2.2.2.2 x hx hn)⟩
theorem Chg.grown {a b : World} {row : Option Nat} (h : a.grownBy b row) : Chg a b (fun x => some x = row) := ⟨h.os, h.tape, h.output, h.size, h.block⟩
theorem Chg.mono {a b : World} {S T : Nat → Prop} (h : Chg a b S) (hT : ∀ x, S x → T x) : Chg a b T := ⟨h.1, h.2.1, h.2.2.1, h.2.2.2.1, fun x hx hn => h.2.2.2.2 x hx fun hs => hn (hT x hs)⟩

/-- A block holds a type. -/
def Box (W : World) (b : Nat) (t : LT) : Prop := ∃ e, W.heap[b]? = some (.cells #[.int .i64 t.k, .string t.n, .slice t.a t.ks.length t.cap] e (0, 0))
theorem Box.c {W : World} {b : Nat} {t : LT} (h : Box W b t) : W.cell? ⟨b, 0, none⟩ = some (.int .i64 t.k) ∧ W.cell? ⟨b, 1, none⟩ = some (.string t.n) ∧ W.cell? ⟨b, 2, none⟩ = some (.slice t.a t.ks.length t.cap) := by
  obtain ⟨e, h⟩ := h
  exact ⟨cell_of_row _ _ 0 _ _ _ h, cell_of_row _ _ 1 _ _ _ h, cell_of_row _ _ 2 _ _ _ h⟩
theorem Box.lt {W : World} {b : Nat} {t : LT} (h : Box W b t) : b < W.heap.size := by
  obtain ⟨e, h⟩ := h
  exact (Array.getElem?_eq_some_iff.1 h).1
theorem Box.new (W : World) (t : LT) (e : TypeId) : Box (W.alloc (.cells #[.int .i64 t.k, .string t.n, .slice t.a t.ks.length t.cap] e)) W.heap.size t := ⟨e, heap_alloc_new W _⟩
theorem Box.same {W W' : World} {b : Nat} {t : LT} (h : Box W b t) (hs : W'.heap[b]? = W.heap[b]?) : Box W' b t := by
  obtain ⟨e, h⟩ := h
  exact ⟨e, hs.trans h⟩
theorem Box.grow {W W' : World} {b : Nat} {t : LT} (h : Box W b t) (g : Gw W W') : Box W' b t := h.same (g.block b h.lt)
theorem Box.chg {W W' : World} {S : Nat → Prop} {b : Nat} {t : LT} (h : Box W b t) (g : Chg W W' S) (hb : ¬ S b) : Box W' b t := h.same (g.2.2.2.2 b h.lt hb)
theorem Box.drew {W : World} {b : Nat} {t : LT} (h : Box W b t) : Box W.drew b t := h.same rfl

theorem LT.New.chg {B : Nat} {W W' : World} {S : Nat → Prop} {t : LT} (h : t.New B W) (g : Chg W W' S) (hb : ∀ b ∈ t.bl, ¬ S b) : t.New B W' :=
  ⟨h.1.frame fun b hm => g.2.2.2.2 b (h.2.2 b hm).2.lt (hb b hm), h.2.1, fun b hm => ⟨(h.2.2 b hm).1, (h.2.2 b hm).2.same (g.2.2.2.2 b (h.2.2 b hm).2.lt (hb b hm))⟩⟩
theorem LT.New.drew {B : Nat} {W : World} {t : LT} (h : t.New B W) : t.New B W.drew := ⟨h.1.drew, h.2.1, fun b hm => ⟨(h.2.2 b hm).1, (h.2.2 b hm).2.same rfl⟩⟩
theorem LT.New.lt {B : Nat} {W : World} {t : LT} (h : t.New B W) : ∀ b ∈ t.bl, b < W.heap.size := fun b hm => (h.2.2 b hm).2.lt
theorem LT.New.ge {B : Nat} {W : World} {t : LT} (h : t.New B W) : ∀ b ∈ t.bl, B ≤ b := fun b hm => (h.2.2 b hm).1

end Go.Proofs.YtkpbiifikkbaeaaDoor.Con
