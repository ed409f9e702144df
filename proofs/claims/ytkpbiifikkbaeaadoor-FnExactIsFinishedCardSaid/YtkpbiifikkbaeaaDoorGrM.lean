/-
  One element of a row in new memory is written anew, in general: the row with that element is new still. No program in it, no condition.
-/
import Derived.Test.YtkpbiifikkbaeaaDoorGr
import Derived.Test.YtkpbiifikkbaeaaDoorTyBox
namespace Go.Proofs.YtkpbiifikkbaeaaDoor.Con
open Go.RowKit
set_option linter.unusedVariables false

/-- From A to B: but for the blocks S and for the cells p to q of block b nothing that lay has turned. -/
structure Upd (b p q : Nat) (S : Nat → Prop) (A B : World) : Prop where
  os : B.os = A.os
  tape : B.tape = A.tape
  output : B.output = A.output
  size : A.heap.size ≤ B.heap.size
  far : ∀ y, y < A.heap.size → y ≠ b → ¬ S y → B.heap[y]? = A.heap[y]?
  cell : ∀ x, (x < p ∨ q ≤ x) → B.cell? ⟨b, x, none⟩ = A.cell? ⟨b, x, none⟩
  free : Free A b → Free B b
theorem Upd.refl (b p q : Nat) (S : Nat → Prop) (A : World) : Upd b p q S A A := ⟨rfl, rfl, rfl, Nat.le_refl _, fun _ _ _ _ => rfl, fun _ _ => rfl, id⟩
theorem Upd.trans {b p q : Nat} {S : Nat → Prop} {A B C : World} (h : Upd b p q S A B) (k : Upd b p q S B C) : Upd b p q S A C :=
  ⟨k.os.trans h.os, k.tape.trans h.tape, k.output.trans h.output, Nat.le_trans h.size k.size, fun y hy hb hs => (k.far y (Nat.lt_of_lt_of_le hy h.size) hb hs).trans (h.far y hy hb hs), fun p hp => (k.cell p hp).trans (h.cell p hp), fun f => k.free (h.free f)⟩
theorem Upd.set {b p q x : Nat} {S : Nat → Prop} {A B : World} (h : Upd b p q S A B) (hp : p ≤ x) (hq : x < q) (v : Value) : Upd b p q S A (B.setCell ⟨b, x, none⟩ v) := by
  refine h.trans ⟨rfl, rfl, rfl, by simp [World.setCell], fun y hy hb _ => Below.heap_setCell _ _ _ _ (by simpa using hb), fun z hz => ?_, fun f => f.set _ _⟩
  exact World.cell?_setCell_other _ _ _ _ (by intro e; cases e; omega)
theorem Upd.gw {b p q : Nat} {S : Nat → Prop} {A B C : World} (h : Upd b p q S A B) (hb : b < A.heap.size) (g : Gw B C) : Upd b p q S A C := by
  have hb' : b < B.heap.size := Nat.lt_of_lt_of_le hb h.size
  exact h.trans ⟨g.os, g.tape, g.output, g.size, fun y hy _ _ => g.block y hy, fun p _ => World.cell?_of_block (a := ⟨b, p, none⟩) (g.block b hb'), fun f => f.same (g.block b hb')⟩
theorem Upd.chg {b p q : Nat} {S : Nat → Prop} {A B C : World} (h : Upd b p q S A B) (hb : b < A.heap.size) (g : Chg B C S) (hS : ¬ S b) : Upd b p q S A C := by
  have hb' : b < B.heap.size := Nat.lt_of_lt_of_le hb h.size
  have e := g.2.2.2.2 b hb' hS
  exact h.trans ⟨g.1, g.2.1, g.2.2.1, g.2.2.2.1, fun y hy _ hs => g.2.2.2.2 y hy hs, fun p _ => World.cell?_of_block (a := ⟨b, p, none⟩) e, fun f => f.same e⟩
theorem Upd.mono {b p q : Nat} {S T : Nat → Prop} {A B : World} (h : Upd b p q S A B) (hS : ∀ y, S y → T y) : Upd b p q T A B :=
  ⟨h.os, h.tape, h.output, h.size, fun y hy hb ht => h.far y hy hb (fun hs => ht (hS y hs)), h.cell, h.free⟩
theorem Upd.toChg {b p q : Nat} {S : Nat → Prop} {A B : World} (h : Upd b p q S A B) : Chg A B (fun y => y = b ∨ S y) :=
  ⟨h.os, h.tape, h.output, h.size, fun y hy hn => h.far y hy (fun e => hn (.inl e)) (fun hs => hn (.inr hs))⟩

section
variable {α : Type} {k : Nat} {cE : α → List Value} {ok : World → α → Prop} {cb : α → List Nat}
theorem nb_ne {b o : Nat} {us : List α} (h : us ≠ []) : nbl cb (some ⟨b, o, none⟩) us = b :: us.flatMap cb := by
  unfold nbl
  cases us with
  | nil => exact absurd rfl h
  | cons => rfl

theorem ne_mid (xs ys : List α) (y : α) : ¬ (xs ++ y :: ys = []) := by simp
theorem gNewSl.mid {B : Nat} {w : World} {b o cap : Nat} {xs ys : List α} {y : α} (h : gNewSl k cE ok cb B w (some ⟨b, o, none⟩) cap (xs ++ y :: ys)) :
    (∀ i v, (cE y)[i]? = some v → w.cell? ⟨b, o + xs.length * k + i, none⟩ = some v) ∧ gNew ok cb B w y ∧ Free w b ∧ b ∉ cb y ∧ B ≤ b := by
  have hne : xs ++ y :: ys ≠ [] := by simp
  obtain ⟨h1, h2, h3⟩ := h
  rw [nb_ne hne] at h2 h3
  rw [List.nodup_cons, List.flatMap_append, List.flatMap_cons] at h2
  obtain ⟨b', o', e, hr⟩ := h1.2.2.resolve_left hne
  injection e with e
  injection e with e1 e2
  subst e1 e2
  have hx := hr xs.length (by simp)
  have ee : (xs ++ y :: ys)[xs.length]'(by simp) = y := by simp
  rw [ee] at hx
  have hy : ∀ c ∈ cb y, c ∈ (xs ++ y :: ys).flatMap cb := fun c hc => by rw [List.flatMap_append, List.flatMap_cons]; simp [hc]
  rw [List.nodup_append, List.nodup_append] at h2
  exact ⟨hx.1, ⟨hx.2, h2.2.2.1.1, fun c hc => h3 c (List.mem_cons_of_mem _ (hy c hc))⟩, (h3 b (by simp)).2, fun hc => h2.1 (by simp [hc]), (h3 b (by simp)).1⟩

theorem gNewSl.step (hk : ∀ x, (cE x).length = k) (hf : gFr ok cb) {B : Nat} {w w2 : World} {b o cap j : Nat} {xs ys : List α} {y y' : α} (h : gNewSl k cE ok cb B w (some ⟨b, o, none⟩) cap (xs ++ y :: ys)) (hj : xs.length = j) (hb : cb y' = cb y)
    (hc : ∀ i v, (cE y')[i]? = some v → w2.cell? ⟨b, o + j * k + i, none⟩ = some v) (hn : gNew ok cb B w2 y') (u : Upd b (o + j * k) (o + j * k + k) (fun c => c ∈ cb y) w w2) : gNewSl k cE ok cb B w2 (some ⟨b, o, none⟩) cap (xs ++ y' :: ys) := by
  subst hj
  have hne : xs ++ y :: ys ≠ [] := by simp
  have hne' : xs ++ y' :: ys ≠ [] := by simp
  have hfl : (xs ++ y' :: ys).flatMap cb = (xs ++ y :: ys).flatMap cb := by simp [hb]
  obtain ⟨h1, h2, h3⟩ := h
  have h2' := h2
  rw [nb_ne hne] at h2 h3 h2'
  rw [List.nodup_cons, List.flatMap_append, List.flatMap_cons, List.nodup_append, List.nodup_append] at h2
  obtain ⟨b', o', e, hr⟩ := h1.2.2.resolve_left hne
  injection e with e
  injection e with e1 e2
  subst e1 e2
  have hlt : ∀ c ∈ (xs ++ y :: ys).flatMap cb, c < w.heap.size := fun c hc => (h3 c (List.mem_cons_of_mem _ hc)).2.lt
  have hkeep : ∀ z, z ∈ xs.flatMap cb ∨ z ∈ ys.flatMap cb → w2.heap[z]? = w.heap[z]? := fun z hz => by
    have hzb : z ≠ b := fun e => h2.1 (by rw [← e]; rcases hz with hz | hz <;> simp [hz])
    have hzy : z ∉ cb y := fun hy => by
      rcases hz with hz | hz
      · exact h2.2.2.2 z hz z (by simp [hy]) rfl
      · exact h2.2.2.1.2.2 z hy z hz rfl
    exact u.far z (hlt z (by rw [List.flatMap_append, List.flatMap_cons]; rcases hz with hz | hz <;> simp [hz])) hzb hzy
  refine ⟨⟨by simpa using h1.1, h1.2.1, .inr ⟨b, o, rfl, fun i hi => ?_⟩⟩, ?_, ?_⟩
  · rcases Nat.lt_trichotomy i xs.length with hl | hl | hl
    · obtain ⟨r1, r2⟩ := hr i (by simp; omega)
      have e1 : (xs ++ y' :: ys)[i]'hi = xs[i] := by rw [List.getElem_append_left hl]
      have e2 : (xs ++ y :: ys)[i]'(by simp; omega) = xs[i] := by rw [List.getElem_append_left hl]
      rw [e2] at r1 r2
      rw [e1]
      refine ⟨fun q v hv => ?_, hf _ _ _ r2 fun c hc => hkeep c (.inl (List.mem_flatMap.2 ⟨_, List.getElem_mem hl, hc⟩))⟩
      have hq : q < k := by
        have := (List.getElem?_eq_some_iff.1 hv).1
        rwa [hk] at this
      have hik : i * k + k ≤ xs.length * k := by
        have : (i + 1) * k ≤ xs.length * k := Nat.mul_le_mul_right k hl
        rwa [Nat.add_mul, Nat.one_mul] at this
      exact (u.cell _ (.inl (by omega))).trans (r1 q v hv)
    · subst hl
      have e1 : (xs ++ y' :: ys)[xs.length]'hi = y' := by simp
      rw [e1]
      exact ⟨hc, hn.1⟩
    · have hi2 : i < (xs ++ y :: ys).length := by simpa using hi
      obtain ⟨r1, r2⟩ := hr i hi2
      have hi3 : i - xs.length - 1 < ys.length := by simp at hi; omega
      obtain ⟨m, hm⟩ : ∃ m, i - xs.length = m + 1 := ⟨i - xs.length - 1, by omega⟩
      have e1 : (xs ++ y' :: ys)[i]'hi = ys[i - xs.length - 1] := by
        rw [List.getElem_append_right (by omega)]
        simp only [hm, List.getElem_cons_succ, Nat.add_sub_cancel]
      have e2 : (xs ++ y :: ys)[i]'hi2 = ys[i - xs.length - 1] := by
        rw [List.getElem_append_right (by omega)]
        simp only [hm, List.getElem_cons_succ, Nat.add_sub_cancel]
      rw [e2] at r1 r2
      rw [e1]
      refine ⟨fun q v hv => ?_, hf _ _ _ r2 fun c hc => hkeep c (.inr (List.mem_flatMap.2 ⟨_, List.getElem_mem hi3, hc⟩))⟩
      have hik : xs.length * k + k ≤ i * k := by
        have : (xs.length + 1) * k ≤ i * k := Nat.mul_le_mul_right k hl
        rwa [Nat.add_mul, Nat.one_mul] at this
      exact (u.cell _ (.inr (by omega))).trans (r1 q v hv)
  · rw [nb_ne hne', hfl]; exact h2'
  · intro c hm
    rw [nb_ne hne', hfl] at hm
    rcases List.mem_cons.1 hm with rfl | hm
    · exact ⟨(h3 c (by simp)).1, u.free (h3 c (by simp)).2⟩
    · rw [List.flatMap_append, List.flatMap_cons] at hm
      rcases List.mem_append.1 hm with hm | hm
      · exact ⟨(h3 c (by rw [List.flatMap_append]; simp [hm])).1, (h3 c (by rw [List.flatMap_append]; simp [hm])).2.same (hkeep c (.inl hm))⟩
      · rcases List.mem_append.1 hm with hm | hm
        · exact hn.2.2 c (by rw [hb]; exact hm)
        · exact ⟨(h3 c (by rw [List.flatMap_append, List.flatMap_cons]; simp [hm])).1, (h3 c (by rw [List.flatMap_append, List.flatMap_cons]; simp [hm])).2.same (hkeep c (.inr hm))⟩
end

end Go.Proofs.YtkpbiifikkbaeaaDoor.Con
