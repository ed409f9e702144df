/-
  A row that grows by append, of elements of k cells each in blocks of their own ('gApp'), in general. No program in it, no condition.
-/
import Derived.Test.YtkpbiifikkbaeaaDoorGrM
import Derived.Test.YtkpbiifikkbaeaaDoorIRow
namespace Go.Proofs.YtkpbiifikkbaeaaDoor.Con
open Go.RowKit
set_option linter.unusedVariables false

section
variable {α : Type} {k : Nat} {cE : α → List Value} {ok : World → α → Prop} {cb : α → List Nat} {e : TypeId}

theorem flat_len (hk : ∀ x, (cE x).length = k) (xs : List α) : (xs.flatMap cE).length = xs.length * k := by
  induction xs with
  | nil => simp
  | cons x xs ih => rw [List.flatMap_cons, List.length_append, ih, hk, List.length_cons, Nat.add_mul]; omega
theorem flat_get (hk : ∀ x, (cE x).length = k) (xs : List α) (i : Nat) (hi : i < xs.length) (j : Nat) (hj : j < k) : (xs.flatMap cE)[i * k + j]? = (cE xs[i])[j]? := by
  induction xs generalizing i with
  | nil => simp at hi
  | cons x xs ih =>
    cases i with
    | zero => rw [List.flatMap_cons, List.getElem?_append_left (by rw [hk]; omega)]; simp
    | succ i =>
      rw [List.flatMap_cons, List.getElem?_append_right (by rw [hk, Nat.add_mul]; omega), hk, show (i + 1) * k + j - k = i * k + j by rw [Nat.add_mul]; omega]
      exact ih i (by simpa using hi)

def gApp (e : TypeId) (k : Nat) (cE : α → List Value) (ok : World → α → Prop) (cb : α → List Nat) (B : Nat) (w : World) (v : Value) (us : List α) : Prop :=
  w.ownsRow B e k v us.length (us.flatMap cE) ∧ (∀ u ∈ us, ok w u) ∧ (us.flatMap cb).Nodup ∧ ∀ b ∈ us.flatMap cb, B ≤ b ∧ Free w b ∧ v.ownBlock ≠ some b

theorem gApp.nil (B : Nat) (w : World) : gApp e k cE ok cb B w (.slice none 0 0) [] := ⟨⟨by simp, .inl ⟨rfl, rfl⟩⟩, (fun _ h => by cases h), List.nodup_nil, fun _ h => by cases h⟩
theorem gApp.form {B : Nat} {w : World} {v : Value} {us : List α} (h : gApp e k cE ok cb B w v us) : ∃ a cap, v = .slice a us.length cap := by
  rcases h.1.2 with ⟨rfl, h0⟩ | ⟨g, cap, _, rfl, _⟩
  · exact ⟨none, 0, by rw [h0]⟩
  · exact ⟨_, cap, rfl⟩
theorem gApp.grow (hg : gGr ok) {B : Nat} {w w' : World} {v : Value} {us : List α} (h : gApp e k cE ok cb B w v us) (g : Gw w w') : gApp e k cE ok cb B w' v us :=
  ⟨own_chgI h.1 (Chg.of_gw g (fun _ => False)) (fun _ _ h => h), fun u hu => hg _ _ _ (h.2.1 u hu) g, h.2.2.1, fun b hb => ⟨(h.2.2.2 b hb).1, (h.2.2.2 b hb).2.1.grow g, (h.2.2.2 b hb).2.2⟩⟩
/-- A store into another block. -/
theorem gApp.far (hf : gFr ok cb) {B : Nat} {w : World} {v : Value} {us : List α} (h : gApp e k cE ok cb B w v us) (p : Addr) (hp : p.block ∉ us.flatMap cb) (hv : v.ownBlock ≠ some p.block) (x : Value) : gApp e k cE ok cb B (w.setCell p x) v us := by
  refine ⟨own_chgI h.1 ((Chg.of_gw (Gw.refl w) (fun b => b = p.block)).set p x (fun _ => rfl)) (fun g hg e => hv (by rw [hg, e])), fun u hu => hf _ _ _ (h.2.1 u hu) fun b hb => Below.heap_setCell _ _ _ _ (fun e => hp (e ▸ List.mem_flatMap.2 ⟨u, hu, hb⟩)), h.2.2.1, fun b hb => ⟨(h.2.2.2 b hb).1, (h.2.2.2 b hb).2.1.set _ _, (h.2.2.2 b hb).2.2⟩⟩
/-- One element more, by append. -/
theorem gApp.push (hgr0 : gGr ok) (hf : gFr ok cb) {B : Nat} {w w1 w2 : World} {v v2 : Value} {us : List α} {u : α} {Bu g : Nat} (h : gApp e k cE ok cb B w v us) (hg : Gw w w1) (hu : gNew ok cb Bu w1 u) (hB : w.heap.size ≤ Bu) (hBB : B ≤ w.heap.size)
    (hown : w2.ownsRow B e k v2 (us.length + 1) (us.flatMap cE ++ cE u)) (hv2 : v2.ownBlock = some g) (hgr : w1.grownBy w2 v.ownBlock) (hat : v.ownBlock = some g ∨ w1.heap.size ≤ g) :
    gApp e k cE ok cb B w2 v2 (us ++ [u]) := by
  have h1 := h.grow hgr0 hg
  have hvlt : ∀ b, v.ownBlock = some b → b < w.heap.size := fun b hb => (h.1.lt b hb).2
  have hnew : ∀ b ∈ cb u, v.ownBlock ≠ some b := fun b hb e => by have := (hu.2.2 b hb).1; have := hvlt b e; omega
  have keep : ∀ b, b < w1.heap.size → v.ownBlock ≠ some b → w2.heap[b]? = w1.heap[b]? := fun b hb hne => hgr.block b hb (fun e => hne e.symm)
  have hall : ∀ b ∈ (us ++ [u]).flatMap cb, B ≤ b ∧ Free w1 b ∧ v.ownBlock ≠ some b := fun b hb => by
    rw [List.flatMap_append] at hb
    rcases List.mem_append.1 hb with hb | hb
    · exact h1.2.2.2 b hb
    · have hb' : b ∈ cb u := by simpa using hb
      have := hu.2.2 b hb'
      exact ⟨by omega, this.2, hnew b hb'⟩
  refine ⟨by rw [List.length_append, List.flatMap_append]; simpa using hown, fun x hx => ?_, ?_, fun b hb => ?_⟩
  · rcases List.mem_append.1 hx with hx | hx
    · exact hf _ _ _ (h1.2.1 x hx) fun b hb => by
        have := h1.2.2.2 b (List.mem_flatMap.2 ⟨x, hx, hb⟩)
        exact keep b this.2.1.lt this.2.2
    · obtain rfl : x = u := by simpa using hx
      exact hf _ _ _ hu.1 fun b hb => keep b (hu.2.2 b hb).2.lt (hnew b hb)
  · rw [List.flatMap_append, List.nodup_append]
    refine ⟨h.2.2.1, by simpa using hu.2.1, fun a ha b hb => ?_⟩
    have h6 := (h.2.2.2 a ha).2.1.lt
    have h7 := (hu.2.2 b (by simpa using hb)).1
    omega
  · obtain ⟨p1, p2, p3⟩ := hall b hb
    refine ⟨p1, p2.same (keep b p2.lt p3), fun e => ?_⟩
    have e' : g = b := by rw [hv2] at e; exact Option.some.inj e
    rcases hat with e2 | e2
    · exact p3 (by rw [e2, e'])
    · have := p2.lt; omega
theorem gApp.done (hk : ∀ x, (cE x).length = k) {B : Nat} {w : World} {a : Option Addr} {cap : Nat} {us : List α} (h : gApp e k cE ok cb B w (.slice a us.length cap) us) : gNewSl k cE ok cb B w a cap us := by
  obtain ⟨h1, h2, h3, h4⟩ := h
  rcases h1.2 with ⟨hv, h0⟩ | ⟨g, cap', cur, hv, hB, hg, hn, hc, hs, ht⟩
  · have : us = [] := List.eq_nil_of_length_eq_zero h0
    subst this
    injection hv with ha _ hcap
    subst ha hcap
    exact ⟨⟨Nat.le_refl _, Nat.zero_le _, .inl rfl⟩, by simp [nbl], fun b hb => by simp [nbl] at hb⟩
  · injection hv with ha _ hcap
    subst ha hcap
    have hcell : ∀ j v, (us.flatMap cE)[j]? = some v → w.cell? ⟨g, j, none⟩ = some v := fun j v hj => by
      have := h1.cells (g := g) rfl j v hj
      have hadd : (⟨g, 0, none⟩ : Addr).add j = ⟨g, j, none⟩ := by unfold Addr.add; split <;> simp_all
      rwa [hadd] at this
    refine ⟨⟨hn, hc, .inr ⟨g, 0, rfl, fun i hi => ⟨fun j v hv => ?_, h2 _ (List.getElem_mem hi)⟩⟩⟩, ?_, ?_⟩
    · rw [Nat.zero_add]
      have hj : j < k := by
        have := (List.getElem?_eq_some_iff.1 hv).1
        rwa [hk] at this
      exact hcell _ _ (by rw [flat_get hk us i hi j hj]; exact hv)
    · unfold nbl
      cases us with
      | nil => simp
      | cons u us =>
        simp only [List.isEmpty_cons, Bool.false_eq_true, if_false, List.singleton_append, List.nodup_cons]
        exact ⟨fun hm => (h4 g hm).2.2 rfl, h3⟩
    · intro b hb
      unfold nbl at hb
      rcases List.mem_append.1 hb with hb | hb
      · cases us with
        | nil => simp at hb
        | cons u us =>
          simp at hb
          subst hb
          exact ⟨hB, cur, _, hg⟩
      · exact ⟨(h4 b hb).1, (h4 b hb).2.1⟩
end

/-- A row of numbers of the call's own is new. -/
theorem nE_flat (L : List Int) : L.flatMap nE = iL L := by
  induction L with
  | nil => rfl
  | cons x xs ih => rw [List.flatMap_cons, ih]; rfl
theorem IRow.num {B : Nat} {w : World} {a : Option Addr} {n c : Nat} {L : List Int} (h : IRow B w (.slice a n c) L) (hb : ∀ x ∈ L, -9223372036854775808 ≤ x ∧ x ≤ 9223372036854775807) : numNew B w a c L ∧ n = L.length := by
  have hn := h.len.1
  subst hn
  have hf : L.flatMap nB = [] := by
    clear h hb
    induction L with
    | nil => rfl
    | cons x xs ih => rw [List.flatMap_cons, ih]; rfl
  refine ⟨gApp.done (e := 2) nLen ⟨?_, hb, by rw [hf]; exact List.nodup_nil, fun b hb => by rw [hf] at hb; cases hb⟩, rfl⟩
  rw [nE_flat]
  exact h
theorem numSl.bd {w : World} {a : Option Addr} {c : Nat} {L : List Int} (h : numSl w a c L) : ∀ x ∈ L, -9223372036854775808 ≤ x ∧ x ≤ 9223372036854775807 := fun x hx => by
  obtain ⟨i, hi, rfl⟩ := List.mem_iff_getElem.1 hx
  obtain ⟨b, o, _, hr⟩ := h.2.2.resolve_left (fun e => by subst e; simp at hi)
  exact (hr i hi).2

end Go.Proofs.YtkpbiifikkbaeaaDoor.Con
