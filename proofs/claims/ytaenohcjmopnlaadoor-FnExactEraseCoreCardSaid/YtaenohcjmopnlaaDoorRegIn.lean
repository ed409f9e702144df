/-
  A great region that draws its order, in a round of a range over a function (at the wide fence): the first n operations only read, the others follow in the order of the text and may call a yield. No program in it, no condition.
-/
import Derived.Test.YtaenohcjmopnlaaDoorReg
import Derived.OrdersIn
import Derived.TacticsIn
namespace Go.Proofs.YtaenohcjmopnlaaDoor.Con
open Go.RowKit
set_option linter.unusedVariables false

theorem oper_in {P : Program} {o : Oper} {a : Act} {w : World} {K : Act → World → Prop} {Q : Exit → Act → World → Prop} {l n : Nat} (hd : ∀ c, o.op ≠ .defer c) (h : o.wp P a w K Q) : o.wpIn (Fence.wide.inRound l) n P a w K Q := by
  unfold Oper.wp at h
  unfold Oper.wpIn
  refine ⟨fun f _ => trivial, ?_⟩
  rw [Oper.semAt_eq _ _ _ hd]
  generalize (execOp a.eval o).run P w = r at h ⊢
  cases r with
  | ok x w' =>
    cases x <;> simp only [Oper.upon, Oper.uponIn] at h ⊢
    case value v => exact h
    case skip => exact h
    case defer d => exact h
    case enter f args => exact ⟨fun e => by simp [Fence.wide] at e, callsIn_wide.2 h⟩
    case row row args => exact ⟨fun e => by simp [Fence.wide] at e, fun c cs _ => let ⟨v, w'', r, s⟩ := h c cs; ⟨v, w'', r, stepsIn_wide.2 s⟩⟩
  | halt x w' => cases x <;> simp only [Oper.upon, Oper.uponIn] at h ⊢ <;> exact h

def noDefer (ops : Array Oper) : Bool := ops.toList.all fun o => match o.op with | .defer _ => false | _ => true
theorem noDefer_spec {ops : Array Oper} (h : noDefer ops = true) (i : Nat) (o : Oper) (hi : ops[i]? = some o) (c : _) : o.op ≠ .defer c := fun e => by
  have := List.all_eq_true.1 h o (List.mem_of_getElem? (by rw [Array.getElem?_toList]; exact hi))
  rw [e] at this
  cases this

theorem opIn_of {P : Program} {ops : Array Oper} {Q : Exit → Act → World → Prop} {l n i : Nat} {K : Act → World → Prop} {a : Act} {w : World} (hd : noDefer ops = true) (hQ : ¬ LetsOut Q) (h : wpOp P ops Q i K a w) : wpOpIn (Fence.wide.inRound l) n P ops Q i K a w := by
  unfold wpOp at h
  unfold wpOpIn
  cases ho : ops[i]? with
  | none => simpa only [ho] using h
  | some o =>
    simp only [ho] at h ⊢
    split
    · next hw =>
      rw [if_pos hw] at h
      rcases h with h | ⟨_, h⟩
      · exact oper_in (noDefer_spec hd i o ho) h
      · exact absurd h hQ
    · next hw =>
      rw [if_neg hw] at h
      exact ⟨fun f _ => trivial, h⟩

section
variable {P : Program} {md : Region.Mode} {ops : Array Oper} {w : World}
theorem anyIn_of_head {l m n g : Nat} {L : Array Bool → Act → Prop} {Q' : Exit → Act → World → Prop} (hd : noDefer ops = true) (hQ : ¬ LetsOut Q') (hL : ∀ listed a, L listed a → wpAnyIn (Fence.wide.inRound l) m P md ops Q' g listed a w) :
    ∀ (f : Nat) (listed : Array Bool) (a : Act), wpAnyL P md ops w n L f listed a → wpAnyIn (Fence.wide.inRound l) m P md ops Q' (f + g) listed a w
  | 0, listed, a, h => by rw [Nat.zero_add]; exact hL _ _ h
  | f + 1, listed, a, h => by
    rw [show f + 1 + g = (f + g) + 1 by omega]
    exact ⟨fun h0 => absurd h0 h.1, fun i hi => opIn_of hd hQ (wpOp_of_stOp (fun a' h' => anyIn_of_head hd hQ hL f _ a' h') (h.2 i hi).2)⟩
theorem anyIn_of_seq {l m : Nat} {Q' : Exit → Act → World → Prop} : ∀ (ls : List Oper) (k : Nat) (listed : Array Bool) (a : Act) (w : World), (∀ j, ls[j]? = ops[k + j]?) →
    Region.seqB md ops ls.length k listed = true → wpListIn (Fence.wide.inRound l) m P ops Q' ls a w → wpAnyIn (Fence.wide.inRound l) m P md ops Q' ls.length listed a w
  | [], _, _, _, _, _, hB, h => ⟨by simpa [Region.seqB] using hB, h⟩
  | o :: ls, k, listed, a, w, hl, hB, h => by
    have h0 : ops[k]? = some o := by simpa using (hl 0).symm
    simp only [List.length_cons, Region.seqB, Bool.and_eq_true, decide_eq_true_eq] at hB
    refine ⟨fun h1 => (by rw [hB.1] at h1; cases h1), fun i hi => ?_⟩
    rw [hB.1] at hi
    have hik : i = k := by simpa using hi
    subst hik
    have hw : wpOpIn (Fence.wide.inRound l) m P ops Q' i (wpListIn (Fence.wide.inRound l) m P ops Q' ls) a w := by unfold wpOpIn; simp only [h0]; exact h
    exact wpOpIn_mono (fun a' w' h' => anyIn_of_seq ls (i + 1) _ a' w' (fun j => by have := hl (j + 1); simpa [Nat.add_assoc, Nat.add_comm 1 j] using this) hB.2 h') hw
end

theorem regIn_start {P : Program} {id l m : Nat} {Q : Exit → Act → World → Prop} {a : Act} {w : World} {L : List Oper} (n : Nat) (hm : P.follows .mixedOrders = true) (hd : noDefer L.toArray = true) (hQ : ¬ LetsOut Q) (hB : Region.lexTailB .any L.toArray n = true)
    (h : wpStill P L.toArray w.drew (fun a' => wpListIn (Fence.wide.inRound l) m P L.toArray Q (L.drop n) a' w.drew) ((L.take n).drop 0) a) : (Code.region id L.toArray true).wpIn (Fence.wide.inRound l) m P Q a w := by
  rw [List.drop_zero] at h
  simp only [Region.lexTailB, Bool.and_eq_true, decide_eq_true_eq] at hB
  obtain ⟨⟨⟨⟨hsel, hn⟩, hs⟩, hc⟩, hlex⟩ := hB
  have hn' : n < L.length := by simpa using hn
  have htl : (L.take n).length = n := by simp; omega
  have hdl : (L.drop n).length = L.toArray.size - n := by simp
  have inv0 : HeadInv .any L.toArray n (Array.replicate L.toArray.size false) :=
    ⟨by simp, fun j oj _ hl => (by rw [getD_replicate_false] at hl; cases hl), fun t _ ht => getD_in (by simpa using ht) (getD_replicate_false _ _)⟩
  have H := wpAnyL_lex (md := .any) (g := L.toArray.size - n) hsel hs hc hn (L.take n) 0 _ a (fun j hj => by
    have hj' : j < n := by rw [htl] at hj; exact hj
    simp [hj']) (by simpa using htl) inv0 (by rw [htl]; exact hlex) h
  refine wpIn_region_any hm ?_
  have := anyIn_of_head (Q' := Q) (g := L.toArray.size - n) (l := l) (m := m) hd hQ (fun listed a' hL => by
    have := anyIn_of_seq (md := .any) (Q' := Q) (L.drop n) n listed a' w.drew (fun j => by simp [List.getElem?_drop]) (by rw [hdl]; exact hL.1) hL.2
    rwa [hdl] at this) _ _ _ H
  rw [htl, show n + (L.toArray.size - n) = L.toArray.size by omega] at this
  exact this
theorem regIn_hid {P : Program} {F : Fence} {id n : Nat} {Q : Exit → Act → World → Prop} {a : Act} {w : World} {l : List Oper} (h : ∀ L : List Oper, L = l → (Code.region id L.toArray true).wpIn F n P Q a w) : (Code.region id l.toArray true).wpIn F n P Q a w := h l rfl
section
variable {P : Program} {F : Fence} {m : Nat} {L : List Oper} {w : World} {Q : Exit → Act → World → Prop} {a : Act} {o : Oper}
theorem tailIn_no (k : Nat) (ho : L[k]? = some o) (hF : ∀ f, F.fn f) (hg : Region.wanted o (yielded L.toArray a.tmps) = false) (h : wpListIn F m P L.toArray Q (L.drop (k + 1)) (a.put o.dst undef) w) : wpListIn F m P L.toArray Q (L.drop k) a w := by
  rw [reg_drop k ho]
  exact wpListIn_step fun K hK => by rw [if_neg (by rw [hg]; decide)]; exact ⟨fun f _ => hF f, hK _ _ h⟩
theorem tailIn_do (k : Nat) (ho : L[k]? = some o) (hg : Region.wanted o (yielded L.toArray a.tmps) = true) (h : ∀ K : Act → World → Prop, (∀ a w, wpListIn F m P L.toArray Q (L.drop (k + 1)) a w → K a w) → o.wpIn F m P a w K Q) : wpListIn F m P L.toArray Q (L.drop k) a w := by
  rw [reg_drop k ho]
  exact wpListIn_step fun K hK => by rw [if_pos hg]; exact h K hK
theorem tailIn_end (k : Nat) (hl : L.length ≤ k) (h : wpListIn F m P L.toArray Q [] a w) : wpListIn F m P L.toArray Q (L.drop k) a w := by
  rw [List.drop_eq_nil_of_le hl]; exact h
end

end Go.Proofs.YtaenohcjmopnlaaDoor.Con
