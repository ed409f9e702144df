/-
  Terms in blocks of their own. No program in it, no condition.
-/
import Derived.Test.YtpafjhnamdeagaaTmOpen
namespace Go.Proofs.Ytpafjhnamdeagaa.Con
open Go.RowKit
set_option linter.unusedVariables false

/-- A slice of texts in a block of its own. -/
abbrev strNew (B : Nat) (w : World) (a : Option Addr) (cap : Nat) (xs : List ByteArray) : Prop := gNewSl 1 sE sOk sB B w a cap xs
abbrev LM.New (B : Nat) (w : World) (u : LM) : Prop := gNew LM.Ok LM.bl B w u
abbrev tmNew (B : Nat) (w : World) (a : Option Addr) (cap : Nat) (ks : List LM) : Prop := gNewSl 8 tmE LM.Ok LM.bl B w a cap ks

theorem LM.new_mk {B B1 B2 : Nat} {w : World} {k m : Int} {n : ByteArray} {t : LT} {na : Option Addr} {nc : Nat} {ns : List ByteArray} {a : Option Addr} {c : Nat} {ks : List LM}
    (hk : in64' k) (hm : in64' m) (hn : n.size ≤ maxLen) (ht : t.New B w) (hs : strNew B1 w na nc ns) (hks : tmNew B2 w a c ks) (h1 : ∀ b ∈ t.bl, b < B1) (h2 : ∀ b ∈ nbl sB na ns, b < B2) (h12 : B1 ≤ B2) (hB : B ≤ B1) :
    LM.New B w (.mk k m n t na nc ns a c ks) := by
  refine ⟨(LM.ok_iff _).2 ⟨⟨hk, hm, hn, ht.1, hs.1⟩, hks.1⟩, ?_, fun b hb => ?_⟩
  · rw [LM.bl_eq]
    refine List.nodup_append.2 ⟨ht.2.1, List.nodup_append.2 ⟨hs.2.1, hks.2.1, fun x hx y hy e => ?_⟩, fun x hx y hy e => ?_⟩
    · subst e
      have := h2 x hx
      have := (hks.2.2 x hy).1
      omega
    · subst e
      have := h1 x hx
      rcases List.mem_append.1 hy with hy | hy
      · have := (hs.2.2 x hy).1
        omega
      · have := (hks.2.2 x hy).1
        omega
  · rw [LM.bl_eq] at hb
    rcases List.mem_append.1 hb with hb | hb
    · exact ht.2.2 b hb
    · rcases List.mem_append.1 hb with hb | hb
      · have := hs.2.2 b hb
        exact ⟨by omega, this.2⟩
      · have := hks.2.2 b hb
        exact ⟨by omega, this.2⟩

theorem set_at {w : World} {b i : Nat} {cs : Array Value} {e : TypeId} {v : Value} (h : w.heap[b]? = some (.cells cs e (0, 0))) : (w.setCell ⟨b, i, none⟩ v).heap[b]? = some (.cells (cs.setIfInBounds i v) e (0, 0)) := by
  simp [World.setCell, Array.getElem?_modify, h]
theorem heap_alloc_at (w : World) {b : Nat} (o : Obj) (cs : Array Value) (e : TypeId) (ho : o = .cells cs e) (h : b = w.heap.size) : (w.alloc o).heap[b]? = some (.cells cs e (0, 0)) := by
  subst ho h
  exact heap_alloc_new w _

theorem LT.New.same {B : Nat} {w w' : World} {t : LT} (h : t.New B w) (hb : ∀ b ∈ t.bl, w'.heap[b]? = w.heap[b]?) : t.New B w' :=
  ⟨h.1.frame hb, h.2.1, fun b hm => ⟨(h.2.2 b hm).1, (h.2.2 b hm).2.same (hb b hm)⟩⟩

end Go.Proofs.Ytpafjhnamdeagaa.Con
