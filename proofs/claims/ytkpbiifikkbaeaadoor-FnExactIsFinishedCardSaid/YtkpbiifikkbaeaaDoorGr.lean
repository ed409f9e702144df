/-
  Rows of elements of k cells each, in general: what a row reads as, that it stays, and a row in new memory that is filled element by element. No program in it, no condition.
-/
import Derived.Test.YtkpbiifikkbaeaaDoorDa
namespace Go.Proofs.YtkpbiifikkbaeaaDoor.Con
open Go.RowKit
set_option linter.unusedVariables false

section
variable {α : Type} (k : Nat) (cE : α → List Value) (ok : World → α → Prop) (cb : α → List Nat)

def gRow (w : World) (xs : List α) (b o : Nat) : Prop := ∀ i (h : i < xs.length), (∀ j v, (cE xs[i])[j]? = some v → w.cell? ⟨b, o + i * k + j, none⟩ = some v) ∧ ok w xs[i]
def gSl (w : World) (a : Option Addr) (cap : Nat) (xs : List α) : Prop := xs.length ≤ cap ∧ cap ≤ maxLen ∧ (xs = [] ∨ ∃ b o, a = some ⟨b, o, none⟩ ∧ gRow k cE ok w xs b o)
def gNew (B : Nat) (w : World) (x : α) : Prop := ok w x ∧ (cb x).Nodup ∧ ∀ b ∈ cb x, B ≤ b ∧ Free w b
def gNewSl (B : Nat) (w : World) (a : Option Addr) (cap : Nat) (xs : List α) : Prop := gSl k cE ok w a cap xs ∧ (nbl cb a xs).Nodup ∧ ∀ b ∈ nbl cb a xs, B ≤ b ∧ Free w b
/-- What is asked of the elements: they stay where their blocks stay. -/
def gFr : Prop := ∀ (w w' : World) (x : α), ok w x → (∀ b ∈ cb x, w'.heap[b]? = w.heap[b]?) → ok w' x
def gGr : Prop := ∀ (w w' : World) (x : α), ok w x → Below w.heap.size w w' → ok w' x
end

section
variable {α : Type} {k : Nat} {cE : α → List Value} {ok : World → α → Prop} {cb : α → List Nat}

theorem gRow.grow (hk : ∀ x, (cE x).length = k) (hg : gGr ok) {w w' : World} {xs : List α} {b o : Nat} (h : gRow k cE ok w xs b o) (g : Below w.heap.size w w') : gRow k cE ok w' xs b o := fun i hi =>
  ⟨fun j v hv => (g.cell (p := ⟨_, _, _⟩) (cell_lt ((h i hi).1 j v hv))).trans ((h i hi).1 j v hv), hg _ _ _ (h i hi).2 g⟩
theorem gSl.grow (hk : ∀ x, (cE x).length = k) (hg : gGr ok) {w w' : World} {a : Option Addr} {cap : Nat} {xs : List α} (h : gSl k cE ok w a cap xs) (g : Below w.heap.size w w') : gSl k cE ok w' a cap xs :=
  ⟨h.1, h.2.1, h.2.2.imp id fun ⟨b, o, e, hr⟩ => ⟨b, o, e, hr.grow hk hg g⟩⟩
theorem gNew.grow (hg : gGr ok) {B : Nat} {w w' : World} {x : α} (h : gNew ok cb B w x) (g : Below w.heap.size w w') : gNew ok cb B w' x :=
  ⟨hg _ _ _ h.1 g, h.2.1, fun b hb => ⟨(h.2.2 b hb).1, (h.2.2 b hb).2.grow g⟩⟩
theorem gNew.same (hf : gFr ok cb) {B : Nat} {w w' : World} {x : α} (h : gNew ok cb B w x) (hb : ∀ b ∈ cb x, w'.heap[b]? = w.heap[b]?) : gNew ok cb B w' x :=
  ⟨hf _ _ _ h.1 hb, h.2.1, fun b hm => ⟨(h.2.2 b hm).1, (h.2.2 b hm).2.same (hb b hm)⟩⟩
theorem gNew.mono {B B' : Nat} {w : World} {x : α} (h : gNew ok cb B w x) (hB : B' ≤ B) : gNew ok cb B' w x := ⟨h.1, h.2.1, fun b hb => ⟨Nat.le_trans hB (h.2.2 b hb).1, (h.2.2 b hb).2⟩⟩
theorem gNewSl.grow (hk : ∀ x, (cE x).length = k) (hg : gGr ok) {B : Nat} {w w' : World} {a : Option Addr} {cap : Nat} {xs : List α} (h : gNewSl k cE ok cb B w a cap xs) (g : Below w.heap.size w w') : gNewSl k cE ok cb B w' a cap xs :=
  ⟨h.1.grow hk hg g, h.2.1, fun b hb => ⟨(h.2.2 b hb).1, (h.2.2 b hb).2.grow g⟩⟩
theorem gNewSl.mono {B B' : Nat} {w : World} {a : Option Addr} {cap : Nat} {xs : List α} (h : gNewSl k cE ok cb B w a cap xs) (hB : B' ≤ B) : gNewSl k cE ok cb B' w a cap xs := ⟨h.1, h.2.1, fun b hb => ⟨Nat.le_trans hB (h.2.2 b hb).1, (h.2.2 b hb).2⟩⟩

theorem gSl.frame (hk : 0 < k) (hc : ∀ x, (cE x).length = k) (hf : gFr ok cb) {w w' : World} {a : Option Addr} {cap : Nat} {xs : List α} (h : gSl k cE ok w a cap xs) (hb : ∀ b ∈ nbl cb a xs, w'.heap[b]? = w.heap[b]?) : gSl k cE ok w' a cap xs := by
  refine ⟨h.1, h.2.1, h.2.2.imp id fun ⟨b, o, e, hr⟩ => ⟨b, o, e, fun i hi => ?_⟩⟩
  obtain ⟨c0, c1⟩ := hr i hi
  have hne : xs.isEmpty = false := by cases xs with | nil => simp at hi | cons => rfl
  have hbb : w'.heap[b]? = w.heap[b]? := hb b (by unfold nbl; rw [hne, e]; simp)
  exact ⟨fun j v hv => (World.cell?_of_block (w := w) (w' := w') (a := ⟨b, o + i * k + j, none⟩) hbb).trans (c0 j v hv), hf _ _ _ c1 fun x hx => hb x (nbl_sub (List.getElem_mem hi) x hx)⟩
theorem gNewSl.same (hk : 0 < k) (hc : ∀ x, (cE x).length = k) (hf : gFr ok cb) {B : Nat} {w w' : World} {a : Option Addr} {cap : Nat} {xs : List α} (h : gNewSl k cE ok cb B w a cap xs) (hb : ∀ b ∈ nbl cb a xs, w'.heap[b]? = w.heap[b]?) : gNewSl k cE ok cb B w' a cap xs :=
  ⟨h.1.frame hk hc hf hb, h.2.1, fun b hm => ⟨(h.2.2 b hm).1, (h.2.2 b hm).2.same (hb b hm)⟩⟩

/-- Stores to cells that follow one another. -/
def setRow (w : World) (g : Nat) : Nat → List Value → World
  | _, [] => w
  | o, v :: vs => setRow (w.setCell ⟨g, o, none⟩ v) g (o + 1) vs
theorem setRow_size (g : Nat) : ∀ (vs : List Value) (w : World) (o : Nat), (setRow w g o vs).heap.size = w.heap.size
  | [], _, _ => rfl
  | v :: vs, w, o => by rw [setRow, setRow_size g vs]; simp [World.setCell]
theorem setRow_far (g b : Nat) (hb : b ≠ g) : ∀ (vs : List Value) (w : World) (o : Nat), (setRow w g o vs).heap[b]? = w.heap[b]?
  | [], _, _ => rfl
  | v :: vs, w, o => by rw [setRow, setRow_far g b hb vs, Below.heap_setCell _ _ _ _ (by simpa using hb)]
theorem setRow_below {B g : Nat} (hB : B ≤ g) : ∀ (vs : List Value) (w w0 : World) (o : Nat), Below B w0 w → Below B w0 (setRow w g o vs)
  | [], _, _, _, h => h
  | v :: vs, w, w0, o, h => setRow_below hB vs _ w0 _ (h.setCell hB v)
theorem setRow_at (g : Nat) (e : TypeId) : ∀ (vs : List Value) (w : World) (o : Nat) (cs : Array Value), w.heap[g]? = some (.cells cs e (0, 0)) → o + vs.length ≤ cs.size →
    ∃ cs', (setRow w g o vs).heap[g]? = some (.cells cs' e (0, 0)) ∧ cs'.size = cs.size ∧ (∀ p, p < o ∨ o + vs.length ≤ p → cs'[p]? = cs[p]?) ∧ ∀ j (v : Value), vs[j]? = some v → cs'[o + j]? = some v
  | [], w, o, cs, h, _ => ⟨cs, h, rfl, fun _ _ => rfl, fun j v hv => by simp at hv⟩
  | v :: vs, w, o, cs, h, hs => by
    have h1 : (w.setCell ⟨g, o, none⟩ v).heap[g]? = some (.cells (cs.setIfInBounds o v) e (0, 0)) := by simp [World.setCell, Array.getElem?_modify, h]
    simp only [List.length_cons] at hs
    obtain ⟨cs', h2, h3, h4, h5⟩ := setRow_at g e vs _ (o + 1) _ h1 (by simp; omega)
    refine ⟨cs', h2, by rw [h3]; simp, fun p hp => ?_, fun j u hu => ?_⟩
    · simp only [List.length_cons] at hp
      rw [h4 p (by omega), Array.getElem?_setIfInBounds_ne (by omega)]
    · cases j with
      | zero =>
        simp at hu
        subst hu
        rw [h4 (o + 0) (by omega), Nat.add_zero, Array.getElem?_setIfInBounds_self_of_lt (by omega)]
      | succ j =>
        have := h5 j u (by simpa using hu)
        rw [← this]; congr 1; omega

def gFill (k : Nat) (cE : α → List Value) (ok : World → α → Prop) (cb : α → List Nat) (w : World) (g n : Nat) (us : List α) : Prop :=
  us.length ≤ n ∧ (∃ cs e, w.heap[g]? = some (.cells cs e (0, 0)) ∧ cs.size = n * k) ∧ gRow k cE ok w us g 0 ∧ (us.flatMap cb).Nodup ∧ ∀ b ∈ us.flatMap cb, g < b ∧ Free w b

theorem gFill.start (w : World) (g n : Nat) (h : ∃ cs e, w.heap[g]? = some (.cells cs e (0, 0)) ∧ cs.size = n * k) : gFill k cE ok cb w g n [] :=
  ⟨Nat.zero_le _, h, fun i hi => by simp at hi, List.nodup_nil, fun _ h => by cases h⟩
theorem gFill.grow (hk : ∀ x, (cE x).length = k) (hg : gGr ok) {w w' : World} {g n : Nat} {us : List α} (h : gFill k cE ok cb w g n us) (gr : Below w.heap.size w w') : gFill k cE ok cb w' g n us := by
  obtain ⟨h0, ⟨cs, e, h1, h2⟩, h3, h4, h5⟩ := h
  exact ⟨h0, ⟨cs, e, (gr.block g (Array.getElem?_eq_some_iff.1 h1).1).trans h1, h2⟩, h3.grow hk hg gr, h4, fun b hb => ⟨(h5 b hb).1, (h5 b hb).2.grow gr⟩⟩
theorem gFill.room {w : World} {g n : Nat} {us : List α} (h : gFill k cE ok cb w g n us) (hn : us.length < n) (j : Nat) (hj : j < k) : ∃ v, w.cell? ⟨g, us.length * k + j, none⟩ = some v := by
  obtain ⟨_, ⟨cs, e, h1, h2⟩, _⟩ := h
  have hlt : us.length * k + j < cs.size := by
    have : (us.length + 1) * k ≤ n * k := Nat.mul_le_mul_right k hn
    rw [Nat.add_mul, Nat.one_mul] at this
    omega
  exact ⟨cs[us.length * k + j], by rw [cell_of_row w g _ cs e _ h1, Array.getElem?_eq_getElem]⟩
theorem gFill.free {w : World} {g n : Nat} {us : List α} (h : gFill k cE ok cb w g n us) (j : Nat) : w.frozen? ⟨g, j, none⟩ = false := by
  obtain ⟨_, ⟨cs, e, h1, h2⟩, _⟩ := h
  simp [World.frozen?, h1]
theorem gFill.lt {w : World} {g n : Nat} {us : List α} (h : gFill k cE ok cb w g n us) : g < w.heap.size := by
  obtain ⟨_, ⟨cs, e, h1, _⟩, _⟩ := h
  exact (Array.getElem?_eq_some_iff.1 h1).1

/-- One element more. -/
theorem gFill.put (hk : ∀ x, (cE x).length = k) (hf : gFr ok cb) {w : World} {g n : Nat} {us : List α} (h : gFill k cE ok cb w g n us) (hn : us.length < n) {B : Nat} {u : α} (hu : gNew ok cb B w u) (hB : ∀ b ∈ us.flatMap cb, b < B) (hg : g < B) :
    gFill k cE ok cb (setRow w g (us.length * k) (cE u)) g n (us ++ [u]) := by
  obtain ⟨h0, ⟨cs, e, h1, h2⟩, h3, h4, h5⟩ := h
  have hle : us.length * k + k ≤ n * k := by
    have : (us.length + 1) * k ≤ n * k := Nat.mul_le_mul_right k hn
    rwa [Nat.add_mul, Nat.one_mul] at this
  obtain ⟨cs', e1, e2, e3, e4⟩ := setRow_at g e (cE u) w (us.length * k) cs h1 (by rw [hk, h2]; exact hle)
  have hfar : ∀ b, b ≠ g → (setRow w g (us.length * k) (cE u)).heap[b]? = w.heap[b]? := fun b hb => setRow_far g b hb _ _ _
  have hall : ∀ b ∈ (us ++ [u]).flatMap cb, g < b ∧ Free w b := fun b hb => by
    rw [List.flatMap_append] at hb
    rcases List.mem_append.1 hb with hb | hb
    · exact h5 b hb
    · have hb' : b ∈ cb u := by simpa using hb
      have := hu.2.2 b hb'
      exact ⟨by omega, this.2⟩
  have hold : ∀ p, w.cell? ⟨g, p, none⟩ = cs[p]? := fun p => cell_of_row _ _ _ _ _ _ h1
  have hnew : ∀ p, (setRow w g (us.length * k) (cE u)).cell? ⟨g, p, none⟩ = cs'[p]? := fun p => cell_of_row _ _ _ _ _ _ e1
  refine ⟨by simp; omega, ⟨cs', e, e1, by rw [e2, h2]⟩, fun i hi => ?_, ?_, fun b hb => ⟨(hall b hb).1, (hall b hb).2.same (hfar b (by have := (hall b hb).1; omega))⟩⟩
  · by_cases hlt : i < us.length
    · obtain ⟨c0, c1⟩ := h3 i hlt
      rw [List.getElem_append_left hlt]
      refine ⟨fun j v hv => ?_, hf _ _ _ c1 fun b hb => hfar b (fun e => by have := (h5 b (List.mem_flatMap.2 ⟨_, List.getElem_mem hlt, hb⟩)).1; omega)⟩
      have := c0 j v hv
      rw [hold] at this
      have hjk : j < k := by
        have := (List.getElem?_eq_some_iff.1 hv).1
        rwa [hk] at this
      have hik : i * k + k ≤ us.length * k := by
        have : (i + 1) * k ≤ us.length * k := Nat.mul_le_mul_right k hlt
        rwa [Nat.add_mul, Nat.one_mul] at this
      rw [hnew, e3 _ (.inl (by omega))]
      exact this
    · obtain rfl : i = us.length := by simp at hi; omega
      have ee : (us ++ [u])[us.length]'hi = u := by simp
      rw [ee]
      refine ⟨fun j v hv => ?_, hf _ _ _ hu.1 fun b hb => hfar b (fun e => by have := (hu.2.2 b hb).1; omega)⟩
      rw [hnew, Nat.zero_add]
      exact e4 j v hv
  · rw [List.flatMap_append, List.nodup_append]
    refine ⟨h4, by simpa using hu.2.1, fun x hx y hy e => ?_⟩
    subst e
    have h6 := hB x hx
    have h7 := (hu.2.2 x (by simpa using hy)).1
    omega

theorem gFill.done {w : World} {g n cap B : Nat} {us : List α} (h : gFill k cE ok cb w g n us) (hl : us.length ≤ cap) (hc : cap ≤ maxLen) (hB : B ≤ g) : gNewSl k cE ok cb B w (some ⟨g, 0, none⟩) cap us := by
  obtain ⟨h0, ⟨cs, e, h1, h2⟩, h3, h4, h5⟩ := h
  refine ⟨⟨hl, hc, .inr ⟨g, 0, rfl, h3⟩⟩, ?_, ?_⟩
  · unfold nbl
    cases us with
    | nil => simp
    | cons u us =>
      simp only [List.isEmpty_cons, Bool.false_eq_true, if_false, List.singleton_append, List.nodup_cons]
      exact ⟨fun hm => by have := (h5 g hm).1; omega, h4⟩
  · intro b hb
    unfold nbl at hb
    rcases List.mem_append.1 hb with hb | hb
    · cases us with
      | nil => simp at hb
      | cons u us =>
        simp at hb
        subst hb
        exact ⟨hB, cs, e, h1⟩
    · have := h5 b hb
      exact ⟨by omega, this.2⟩
end

end Go.Proofs.YtkpbiifikkbaeaaDoor.Con
