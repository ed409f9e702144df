/-
  A row of types that grows by append ('App'): each type in blocks of its own. No program in it but the number of its element type, no condition.
-/
import Derived.Test.YtbbldkhlclfmkaaTyNodes
namespace Go.Proofs.Ytbbldkhlclfmkaa.Con
open Go.RowKit
set_option linter.unusedVariables false

theorem cellsL_append (xs ys : List LT) : cellsL (xs ++ ys) = cellsL xs ++ cellsL ys := by simp [cellsL]
theorem cellsL_len (xs : List LT) : (cellsL xs).length = xs.length * 3 := by
  induction xs with
  | nil => rfl
  | cons x xs ih => simp only [cellsL, List.flatMap_cons, List.length_append, List.length_cons] at ih ⊢; rw [ih]; simp; omega

theorem cellsL_get (xs : List LT) (i : Nat) (hi : i < xs.length) : (cellsL xs)[3 * i]? = some (.int .i64 xs[i].k) ∧ (cellsL xs)[3 * i + 1]? = some (.string xs[i].n) ∧ (cellsL xs)[3 * i + 2]? = some (.slice xs[i].a xs[i].ks.length xs[i].cap) := by
  induction xs generalizing i with
  | nil => simp at hi
  | cons x xs ih =>
    cases i with
    | zero => simp [cellsL]
    | succ i =>
      have := ih i (by simpa using hi)
      have e : cellsL (x :: xs) = [.int .i64 x.k, .string x.n, .slice x.a x.ks.length x.cap] ++ cellsL xs := rfl
      rw [e, List.getElem?_append_right (by simp; omega), List.getElem?_append_right (by simp; omega), List.getElem?_append_right (by simp; omega)]
      simp only [List.length_cons, List.length_nil, List.getElem_cons_succ]
      rw [show 3 * (i + 1) - (0 + 1 + 1 + 1) = 3 * i from by omega, show 3 * (i + 1) + 1 - (0 + 1 + 1 + 1) = 3 * i + 1 from by omega, show 3 * (i + 1) + 2 - (0 + 1 + 1 + 1) = 3 * i + 2 from by omega]
      exact this

def App (B : Nat) (w : World) (v : Value) (us : List LT) : Prop :=
  w.ownsRow B 29 3 v us.length (cellsL us) ∧ (∀ u ∈ us, u.Ok w) ∧ (bls us).Nodup ∧ ∀ b ∈ bls us, B ≤ b ∧ Free w b ∧ v.ownBlock ≠ some b

theorem App.nil (B : Nat) (w : World) : App B w (.slice none 0 0) [] := ⟨⟨rfl, .inl ⟨rfl, rfl⟩⟩, (fun _ h => by cases h), List.nodup_nil, fun _ h => by cases h⟩

theorem App.form {B : Nat} {w : World} {v : Value} {us : List LT} (h : App B w v us) : ∃ a cap, v = .slice a us.length cap := by
  rcases h.1.2 with ⟨rfl, h0⟩ | ⟨g, cap, _, rfl, _⟩
  · exact ⟨none, 0, by rw [h0]⟩
  · exact ⟨_, cap, rfl⟩

theorem App.grow {B : Nat} {w w' : World} {v : Value} {us : List LT} (h : App B w v us) (g : Gw w w') : App B w' v us :=
  ⟨own_chg h.1 (Chg.of_gw g (fun _ => False)) (fun _ _ h => h), fun u hu => (h.2.1 u hu).grow g, h.2.2.1, fun b hb => ⟨(h.2.2.2 b hb).1, (h.2.2.2 b hb).2.1.grow g, (h.2.2.2 b hb).2.2⟩⟩

/-- A store into another block. -/
theorem App.far {B : Nat} {w : World} {v : Value} {us : List LT} (h : App B w v us) (p : Addr) (hp : p.block ∉ bls us) (hv : v.ownBlock ≠ some p.block) (x : Value) : App B (w.setCell p x) v us := by
  refine ⟨own_chg h.1 ((Chg.of_gw (Gw.refl w) (fun b => b = p.block)).set p x (fun _ => rfl)) (fun g hg e => hv (by rw [hg, e])), fun u hu => (h.2.1 u hu).frame fun b hb => Below.heap_setCell _ _ _ _ (fun e => hp (e ▸ bl_sub hu b hb)), h.2.2.1, fun b hb => ⟨(h.2.2.2 b hb).1, (h.2.2.2 b hb).2.1.set _ _, (h.2.2.2 b hb).2.2⟩⟩

/-- One type more, by append. -/
theorem App.push {B : Nat} {w w1 w2 : World} {v : Value} {us : List LT} {u : LT} {Bu g cap : Nat} (h : App B w v us) (hg : Gw w w1) (hu : u.New Bu w1) (hB : w.heap.size ≤ Bu) (hBB : B ≤ w.heap.size)
    (hown : w2.ownsRow B 29 3 (.slice (some ⟨g, 0, none⟩) (us.length + 1) cap) (us.length + 1) (cellsL us ++ [.int .i64 u.k, .string u.n, .slice u.a u.ks.length u.cap])) (hgr : w1.grownBy w2 v.ownBlock) (hat : v.ownBlock = some g ∨ w1.heap.size ≤ g) :
    App B w2 (.slice (some ⟨g, 0, none⟩) (us.length + 1) cap) (us ++ [u]) := by
  have h1 := h.grow hg
  have hvlt : ∀ b, v.ownBlock = some b → b < w.heap.size := fun b hb => (h.1.lt b hb).2
  have hnew : ∀ b ∈ u.bl, v.ownBlock ≠ some b := fun b hb e => by have := (hu.2.2 b hb).1; have := hvlt b e; omega
  have keep : ∀ b, b < w1.heap.size → v.ownBlock ≠ some b → w2.heap[b]? = w1.heap[b]? := fun b hb hne => hgr.block b hb (fun e => hne e.symm)
  have hall : ∀ b ∈ bls (us ++ [u]), B ≤ b ∧ Free w1 b ∧ v.ownBlock ≠ some b := fun b hb => by
    rw [bls_append] at hb
    rcases List.mem_append.1 hb with hb | hb
    · exact h1.2.2.2 b hb
    · have hb' : b ∈ u.bl := by simpa [bls, LT.bl.bls] using hb
      have := hu.2.2 b hb'
      exact ⟨by omega, this.2, hnew b hb'⟩
  refine ⟨by rw [List.length_append, cellsL_append]; exact hown, fun x hx => ?_, ?_, fun b hb => ?_⟩
  · rcases List.mem_append.1 hx with hx | hx
    · exact (h1.2.1 x hx).frame fun b hb => by
        have := h1.2.2.2 b (bl_sub hx b hb)
        exact keep b this.2.1.lt this.2.2
    · obtain rfl : x = u := by simpa using hx
      exact hu.1.frame fun b hb => keep b (hu.2.2 b hb).2.lt (hnew b hb)
  · rw [bls_append, List.nodup_append]
    refine ⟨h.2.2.1, by simpa [bls, LT.bl.bls] using hu.2.1, fun a ha b hb => ?_⟩
    have h6 := (h.2.2.2 a ha).2.1.lt
    have h7 := (hu.2.2 b (by simpa [bls, LT.bl.bls] using hb)).1
    omega
  · obtain ⟨p1, p2, p3⟩ := hall b hb
    refine ⟨p1, p2.same (keep b p2.lt p3), fun e => ?_⟩
    have e' : g = b := by simpa [Value.ownBlock] using e
    rcases hat with e2 | e2
    · exact p3 (by rw [e2, e'])
    · have := p2.lt; omega

theorem App.done {B : Nat} {w : World} {a : Option Addr} {cap : Nat} {us : List LT} (h : App B w (.slice a us.length cap) us) : slNew B w a cap us := by
  obtain ⟨h1, h2, h3, h4⟩ := h
  rcases h1.2 with ⟨hv, h0⟩ | ⟨g, cap', cur, hv, hB, hg, hn, hc, hs, ht⟩
  · have : us = [] := List.eq_nil_of_length_eq_zero h0
    subst this
    injection hv with ha _ hcap
    subst ha hcap
    exact ⟨LT.ok_mk (Nat.zero_le _) (by simp [LT.k]) (by simp [LT.k]) ⟨Nat.le_refl _, Nat.zero_le _, .inl rfl⟩, by rw [LT.bl_eq]; simp [LT.ks, bls, LT.bl.bls], fun b hb => by rw [LT.bl_eq] at hb; simp [LT.ks, bls, LT.bl.bls] at hb⟩
  · injection hv with ha _ hcap
    subst ha hcap
    have hcell : ∀ j v, (cellsL us)[j]? = some v → w.cell? ⟨g, j, none⟩ = some v := fun j v hj => by
      have := h1.cells (g := g) rfl j v hj
      have hadd : (⟨g, 0, none⟩ : Addr).add j = ⟨g, j, none⟩ := by unfold Addr.add; split <;> simp_all
      rwa [hadd] at this
    refine ⟨LT.ok_mk (Nat.zero_le _) (by simp [LT.k]) (by simp [LT.k]) ⟨hn, hc, .inr ⟨g, 0, rfl, rowOk_mk fun i hi => ?_⟩⟩, ?_, ?_⟩
    · obtain ⟨c0, c1, c2⟩ := cellsL_get us i hi
      exact ⟨by rw [Nat.zero_add]; exact hcell _ _ c0, by rw [Nat.zero_add]; exact hcell _ _ c1, by rw [Nat.zero_add]; exact hcell _ _ c2, h2 _ (List.getElem_mem hi)⟩
    · rw [LT.bl_eq]
      show ((if us.isEmpty then [] else [g]) ++ bls us).Nodup
      cases us with
      | nil => simp [bls, LT.bl.bls]
      | cons u us =>
        simp only [List.isEmpty_cons, Bool.false_eq_true, if_false, List.singleton_append, List.nodup_cons]
        exact ⟨fun hm => (h4 g hm).2.2 rfl, h3⟩
    · intro b hb
      rw [LT.bl_eq] at hb
      have hb' : b ∈ (if us.isEmpty then [] else [g]) ++ bls us := hb
      rcases List.mem_append.1 hb' with hb | hb
      · cases us with
        | nil => simp at hb
        | cons u us =>
          simp at hb
          subst hb
          exact ⟨hB, cur, _, hg⟩
      · exact ⟨(h4 b hb).1, (h4 b hb).2.1⟩

end Go.Proofs.Ytbbldkhlclfmkaa.Con
