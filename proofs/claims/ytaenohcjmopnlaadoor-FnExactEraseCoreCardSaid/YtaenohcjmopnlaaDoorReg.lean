/-
  A great region that draws its order, walked with its operations behind a name: the first n operations only read, the others follow in the order of the text. No program in it, no condition.
-/
import Derived.Test.YtaenohcjmopnlaaDoorBase
import Derived.StillTailTactics
namespace Go.Proofs.YtaenohcjmopnlaaDoor.Con
open Go.RowKit
set_option linter.unusedVariables false

theorem region_hid {P : Program} {id : Nat} {Q : Exit → Act → World → Prop} {a : Act} {w : World} {l : List Oper} (h : ∀ L : List Oper, L = l → (Code.region id L.toArray true).wp P Q a w) : (Code.region id l.toArray true).wp P Q a w := h l rfl
theorem reg_start {P : Program} {id : Nat} {Q : Exit → Act → World → Prop} {a : Act} {w : World} {L : List Oper} (n : Nat) (hm : P.follows .mixedOrders = true) (hB : Region.lexTailB .any L.toArray n = true)
    (h : wpStill P L.toArray w.drew (fun a' => wpList P L.toArray Q (L.drop n) a' w.drew) ((L.take n).drop 0) a) : (Code.region id L.toArray true).wp P Q a w := by
  rw [List.drop_zero] at h
  exact wp_region_still_tail n hm hB h
section
variable {P : Program} {L : List Oper} {w : World} {Q : Act → Prop} {a : Act} {o : Oper} {n : Nat}
theorem reg_rest (k : Nat) (hk : k < n) (ho : L[k]? = some o) : (L.take n).drop k = o :: (L.take n).drop (k + 1) := by
  have h1 : (L.take n)[k]? = some o := by rw [List.getElem?_take, if_pos hk]; exact ho
  obtain ⟨h2, h3⟩ := List.getElem?_eq_some_iff.1 h1
  rw [List.drop_eq_getElem_cons h2, h3]
theorem reg_no (k : Nat) (hk : k < n) (ho : L[k]? = some o) (hg : Region.wanted o (yielded L.toArray a.tmps) = false) (h : wpStill P L.toArray w Q ((L.take n).drop (k + 1)) (a.put o.dst undef)) : wpStill P L.toArray w Q ((L.take n).drop k) a := by
  rw [reg_rest k hk ho]
  exact wpStill_step fun K hK => by rw [if_neg (by rw [hg]; decide)]; exact hK _ h
theorem reg_do (k : Nat) (hk : k < n) (ho : L[k]? = some o) (hg : Region.wanted o (yielded L.toArray a.tmps) = true) (h : ∀ K : Act → Prop, (∀ a, wpStill P L.toArray w Q ((L.take n).drop (k + 1)) a → K a) → o.still P a w K) : wpStill P L.toArray w Q ((L.take n).drop k) a := by
  rw [reg_rest k hk ho]
  exact wpStill_step fun K hK => by rw [if_pos hg]; exact h K hK
theorem reg_end (h : Q a) : wpStill P L.toArray w Q ((L.take n).drop n) a := by
  rw [List.drop_eq_nil_of_le (by simp; omega)]
  exact wpStill_nil h
end
section
variable {P : Program} {L : List Oper} {w : World} {Q : Exit → Act → World → Prop} {a : Act} {o : Oper}
theorem reg_drop (k : Nat) (ho : L[k]? = some o) : L.drop k = o :: L.drop (k + 1) := by
  obtain ⟨h2, h3⟩ := List.getElem?_eq_some_iff.1 ho
  rw [List.drop_eq_getElem_cons h2, h3]
theorem tail_no (k : Nat) (ho : L[k]? = some o) (hg : Region.wanted o (yielded L.toArray a.tmps) = false) (h : wpList P L.toArray Q (L.drop (k + 1)) (a.put o.dst undef) w) : wpList P L.toArray Q (L.drop k) a w := by
  rw [reg_drop k ho]
  exact wpList_step fun K hK => by rw [if_neg (by rw [hg]; decide)]; exact hK _ _ h
theorem tail_do (k : Nat) (ho : L[k]? = some o) (hg : Region.wanted o (yielded L.toArray a.tmps) = true) (h : ∀ K : Act → World → Prop, (∀ a w, wpList P L.toArray Q (L.drop (k + 1)) a w → K a w) → o.wp P a w K Q) : wpList P L.toArray Q (L.drop k) a w := by
  rw [reg_drop k ho]
  exact wpList_step fun K hK => by rw [if_pos hg]; exact h K hK
theorem tail_end (k : Nat) (hl : L.length ≤ k) (h : wpList P L.toArray Q [] a w) : wpList P L.toArray Q (L.drop k) a w := by
  rw [List.drop_eq_nil_of_le hl]; exact h
end

end Go.Proofs.YtaenohcjmopnlaaDoor.Con
