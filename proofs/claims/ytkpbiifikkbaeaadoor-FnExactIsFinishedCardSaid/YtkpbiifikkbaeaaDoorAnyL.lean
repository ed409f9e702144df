/-
  A region that draws its order, where what holds behind an operation may hang on which ones have come. No program in it, no condition.
-/
import Derived.Test.YtkpbiifikkbaeaaDoorBase
import Derived.Deep.RegionHeld3
import Derived.OrdersIn
namespace Go.Proofs.YtkpbiifikkbaeaaDoor.Con
open Go.RowKit
set_option linter.unusedVariables false

section
variable {P : Program} {md : Region.Mode} {ops : Array Oper} {Q : Exit → Act → World → Prop} {S : Array Bool → World → Prop}

/-- Whatever order is picked from here on; what holds behind an operation may hang on which ones have come. -/
def anyL (P : Program) (md : Region.Mode) (ops : Array Oper) (Q : Exit → Act → World → Prop) (S : Array Bool → World → Prop) : Nat → Array Bool → Act → World → Prop
  | 0, L, a, w => Region.ready md ops L = [] ∧ Q .normal a w
  | fuel + 1, L, a, w => (Region.ready md ops L = [] → Q .normal a w) ∧ ∀ i ∈ Region.ready md ops L, wpOp P ops Q i (fun a' w' => S (L.setIfInBounds i true) w' ∧ anyL P md ops Q S fuel (L.setIfInBounds i true) a' w') a w
theorem any_of_L : ∀ (fuel : Nat) (L : Array Bool) (a : Act) (w : World), anyL P md ops Q S fuel L a w → wpAny P md ops Q fuel L a w
  | 0, _, _, _, h => h
  | fuel + 1, _, _, _, h => ⟨h.1, fun i hi => wpOp_mono (fun a' w' k => any_of_L fuel _ a' w' k.2) (h.2 i hi)⟩

/-- What holds as long as G holds of those that have come. -/
def Till (S : Array Bool → World → Prop) (G : Array Bool → Prop) (w : World) : Prop := ∃ L : Array Bool, G L ∧ S L w

theorem anyL_first {i : Nat} {oi : Oper} {v : Value} (hi : ops[i]? = some oi) (hsel : ∀ (j : Nat) (o : Oper) cs b, ops[j]? = some o → o.op ≠ .select cs b) (hQ : ∀ c a w, Q (.panic c) (a.put oi.dst v) w → Q (.panic c) a w)
    (hind : ∀ L w, S (L.setIfInBounds i true) w ↔ S L w) (G : Array Bool → Prop) (hG : ∀ L j, G L → i ∈ Region.ready md ops L → j ∈ Region.ready md ops L → j ≠ i → G (L.setIfInBounds j true)) :
    ∀ (fuel : Nat) (L : Array Bool) (a : Act) (w : World),
      (∀ j oj, ops[j]? = some oj → j ≠ i → L.getD j true = false → (∀ e ∈ oj.after, Region.binds md e = true → e.on ≠ i) → oi.apart ops oj = true) →
      i ∈ Region.ready md ops L → G L → YieldsIf P ops (Till S G) oi v a → S L w → anyL P md ops Q S fuel (L.setIfInBounds i true) (a.put oi.dst v) w → anyL P md ops Q S (fuel + 1) L a w := by
  intro fuel
  induction fuel with
  | zero =>
    intro L a w _ hr hg hy hS H
    have hT : Till S G w := ⟨L, hg, hS⟩
    refine ⟨fun e => absurd hr (by rw [e]; simp), fun j hj => ?_⟩
    by_cases e : j = i
    · exact e ▸ hy.wpOp hi hT ⟨(hind L w).2 hS, H⟩
    · exact absurd (ready_mono hj e) (by rw [H.1]; simp)
  | succ fuel ih =>
    intro L a w hfree hr hg hy hS H
    have hT : Till S G w := ⟨L, hg, hS⟩
    refine ⟨fun e => absurd hr (by rw [e]; simp), fun j hj => ?_⟩
    by_cases e : j = i
    · exact e ▸ hy.wpOp hi hT ⟨(hind L w).2 hS, H⟩
    · obtain ⟨hjun, oj, hoj, hall⟩ := mem_ready.1 hj
      have hiL : i < L.size := by
        have h0 := (mem_ready.1 hr).1
        rcases Nat.lt_or_ge i L.size with h | h
        · exact h
        · simp [Array.getElem?_eq_none h] at h0
      have hno : ∀ d ∈ oj.after, Region.binds md d = true → d.on ≠ i := fun d hd hb he => by
        have h1 := hall d hd hb
        have h0 := (mem_ready.1 hr).1
        rw [he] at h1
        simp [hiL] at h0 h1
        rw [h0] at h1
        cases h1
      have key := wpOp_putIf hoj (hfree j oj hoj e hjun hno) (fun cs b => hsel i oi cs b hi) (fun cs b => hsel j oj cs b hoj) hQ hy (H.2 j (ready_mono hj e))
      refine wpOp_mono (fun a' w' k => ?_) key
      obtain ⟨k1, k2, k3⟩ := k
      rw [Array.setIfInBounds_comm _ _ (fun h => e h.symm)] at k2 k3
      have k2' := (hind _ w').1 k2
      refine ⟨k2', ih (L.setIfInBounds j true) a' w' (fun x ox hx hxi hun hnx => hfree x ox hx hxi ?_ hnx) (ready_mono hr (fun h => e h.symm)) (hG L j hg hr hj e) k1 k2' k3⟩
      by_cases hxj : j = x
      · subst hxj; exact hjun
      · rw [getD_set_ne true hxj] at hun; exact hun

theorem anyL_take {i : Nat} {oi : Oper} {v : Value} {fuel : Nat} {L : Array Bool} {a : Act} {w : World} (hi : ops[i]? = some oi) (hs : Region.noSelect ops = true) (hf : Region.free md ops L i = true) (hr : (Region.ready md ops L).contains i = true)
    (hQ : ∀ c a w, Q (.panic c) (a.put oi.dst v) w → Q (.panic c) a w) (hind : ∀ L w, S (L.setIfInBounds i true) w ↔ S L w) (G : Array Bool → Prop) (hG : ∀ L j, G L → i ∈ Region.ready md ops L → j ∈ Region.ready md ops L → j ≠ i → G (L.setIfInBounds j true)) (hg : G L) (hy : YieldsIf P ops (Till S G) oi v a) (hS : S L w)
    (h : anyL P md ops Q S fuel (L.setIfInBounds i true) (a.put oi.dst v) w) : anyL P md ops Q S (fuel + 1) L a w :=
  anyL_first hi (Region.noSelect_spec hs) hQ hind G hG fuel L a w (Region.free_spec hi hf) (by simpa using hr) hg hy hS h

/-- One operation alone may come. -/
theorem anyL_one {i : Nat} {o : Oper} {fuel : Nat} {L : Array Bool} {a : Act} {w : World} (ho : ops[i]? = some o) (hr : Region.ready md ops L = [i]) (hw : Region.wanted o (yielded ops a.tmps) = true)
    (h : o.wp P a w (fun a' w' => S (L.setIfInBounds i true) w' ∧ anyL P md ops Q S fuel (L.setIfInBounds i true) a' w') Q) : anyL P md ops Q S (fuel + 1) L a w := by
  refine ⟨fun e => absurd (hr.symm.trans e) (by simp), fun j hj => ?_⟩
  rw [hr] at hj
  obtain rfl : j = i := by simpa using hj
  unfold wpOp
  simp only [ho, hw, if_true]
  exact .inl h
theorem anyL_step {i : Nat} {o : Oper} {fuel : Nat} {L : Array Bool} {a : Act} {w : World} (ho : ops[i]? = some o) (hr : Region.ready md ops L = [i]) (hw : Region.wanted o (yielded ops a.tmps) = true)
    (h : ∀ K : Act → World → Prop, Shut (∀ a w, S (L.setIfInBounds i true) w → anyL P md ops Q S fuel (L.setIfInBounds i true) a w → K a w) → o.wp P a w K Q) : anyL P md ops Q S (fuel + 1) L a w :=
  anyL_one ho hr hw (h _ (fun _ _ h1 h2 => ⟨h1, h2⟩))
theorem getD_clash {L : Array Bool} {i : Nat} (h : L.getD i true = false) (k : L.getD i false = true) : False := by
  unfold Array.getD at h k
  split at h <;> simp_all
theorem anyL_done {L : Array Bool} {a : Act} {w : World} (hr : Region.ready md ops L = []) (h : Q .normal a w) : ∀ fuel, anyL P md ops Q S fuel L a w
  | 0 => ⟨hr, h⟩
  | _ + 1 => ⟨fun _ => h, by rw [hr]; simp⟩

end

theorem any_plain {P : Program} {ops : Array Oper} {Q : Exit → Act → World → Prop} {S : Array Bool → World → Prop} {id : Nat} {a : Act} {w : World} (hm : P.follows .mixedOrders = true)
    (h : anyL P .any ops Q S ops.size (Array.replicate ops.size false) a w.drew) : (Code.region id ops true).wp P Q a w := wp_region_any hm (any_of_L _ _ _ _ h)

end Go.Proofs.YtkpbiifikkbaeaaDoor.Con
