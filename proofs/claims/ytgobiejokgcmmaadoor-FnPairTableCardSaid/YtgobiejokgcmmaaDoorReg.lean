/-
  A listed table of structs of whole numbers: what its cells hold. No condition but that the table reads as listed.
  A great region that draws its order, walked with its operations behind a name: the first n operations only read, the others follow in the order of the text. No program in it, no condition.
-/
import Derived.Test.YtgobiejokgcmmaaDoorBase
import Derived.LaidMore
import Derived.StillTailTactics
namespace Go.Proofs.YtgobiejokgcmmaaDoor.Con
open Go.RowKit
set_option linter.unusedVariables false

theorem cell_atm {l : List Value} {n m j : Nat} {x : Value} (hj : j < m) (h : List.take 1 (List.drop j (List.take m (List.drop n l))) = [x]) : l[n + j]? = some x := by
  have h0 : (List.take 1 (List.drop j (List.take m (List.drop n l))))[0]? = some x := by rw [h]; rfl
  simpa [List.getElem?_take, List.getElem?_drop, hj] using h0

def iDat {H : Type} (L : List (List Int)) : List (DataW H) := L.map fun r => .agg (r.map fun x => .lit (.int .i64 x))

theorem inttab_cell {P : Program} {W : World} {name : String} {g t e n m : Nat} {fs : Array Field} (hG : P.globalNamed name = some g) (hT : (P.globals[g]?).map (·.type) = some t)
    (hU : P.underlying t = some (.array n e)) (hE : P.underlying e = some (.struct fs)) (hF : fs.size = m) (hf : ∀ j (f : Field), fs[j]? = some f → f.offset = j ∧ P.underlying f.type = some (.int .i64) ∧ P.cellsOf f.type = 1)
    (hC : P.cellsOf e = m) (L : List (List Int)) (h : laidMet P [(name, .agg (iDat L))] W) :
    g < W.heap.size ∧ ∀ i j v, (L.getD i [])[j]? = some v → W.cell? ⟨g, i * m + j, none⟩ = some (.int .i64 v) := by
  obtain ⟨ps, ⟨g', t', cs, fuel, p, q, hg, ht, hv, hd, _, _⟩, _, _⟩ := h
  obtain rfl := Option.some.inj (hG.symm.trans hg)
  obtain rfl := Option.some.inj (hT.symm.trans ht)
  obtain ⟨xs, mm, _, ex, _, hl, hel⟩ := DataW.trod_array hU hd
  refine ⟨?_, fun i j v hij => ?_⟩
  · unfold World.var? at hv
    rw [hg] at hv
    simp only [Option.bind_some] at hv
    cases hh : W.heap[g]? with
    | none => rw [hh] at hv; cases hv
    | some o => exact (Array.getElem?_eq_some_iff.1 hh).1
  have e3 : (xs.map (·.1)) = iDat L := (DataW.agg.inj (Prod.mk.inj ex).1).symm
  have hLx : xs.length = L.length := by have := congrArg List.length e3; simpa [iDat] using this
  have hi' : i < L.length := by
    rcases Nat.lt_or_ge i L.length with h | h
    · exact h
    · rw [List.getD, List.getElem?_eq_none h] at hij; simp at hij
  have hLi : L.getD i [] = L[i] := by rw [List.getD, List.getElem?_eq_getElem hi']; rfl
  rw [hLi] at hij
  have hi : i < n := by omega
  have hx := hel i hi
  rw [hC, List.getElem?_eq_getElem (by omega)] at hx
  have e4 : (xs.map (·.1))[i]? = (iDat (H := Unit) L)[i]? := by rw [e3]
  unfold iDat at e4
  rw [List.getElem?_map, List.getElem?_map, List.getElem?_eq_getElem (by omega : i < xs.length), List.getElem?_eq_getElem hi'] at e4
  simp only [Option.map_some, Option.some.injEq] at e4
  obtain ⟨ys, m2, _, ey, hly, hly2, hfy⟩ := DataW.trod_struct hE hx
  rw [ey] at e4
  have e5 := DataW.agg.inj e4
  have hlen : ys.length = L[i].length := by have := congrArg List.length e5; simpa using this
  have hj : j < L[i].length := (List.getElem?_eq_some_iff.1 hij).1
  have hjf : j < fs.size := by omega
  have hfj := hf j fs[j] (Array.getElem?_eq_getElem hjf)
  have g0 := hfy j fs[j] (Array.getElem?_eq_getElem hjf)
  rw [hfj.1, hfj.2.2, List.getElem?_eq_getElem (by omega)] at g0
  obtain ⟨v0, a0, b0, _⟩ := DataW.trod_int hfj.2.1 g0
  have e6 : (ys.map (·.1))[j]? = (L[i].map fun x => (DataW.lit (.int .i64 x) : DataW Unit))[j]? := by rw [e5]
  rw [List.getElem?_map, List.getElem?_map, List.getElem?_eq_getElem (by omega : j < ys.length), hij, b0] at e6
  simp only [Option.map_some, Option.some.injEq, DataW.lit.injEq, Lit.int.injEq, true_and] at e6
  rw [World.var?_cell hg hv, ← Array.getElem?_toList, cell_atm (by omega) a0, e6]

end Go.Proofs.YtgobiejokgcmmaaDoor.Con

namespace Go.Proofs.YtgobiejokgcmmaaDoor.Con
open Go.RowKit
set_option linter.unusedVariables false

theorem region_hid {P : Program} {id : Nat} {Q : Exit → Act → World → Prop} {a : Act} {w : World} {l : List Oper} (h : ∀ L : List Oper, L = l → (Code.region id L.toArray true).wp P Q a w) : (Code.region id l.toArray true).wp P Q a w := h l rfl
theorem reg_start {P : Program} {id : Nat} {Q : Exit → Act → World → Prop} {a : Act} {w : World} {L : List Oper} (n : Nat) (hm : P.follows .mixedOrders = true) (hB : Region.lexTailB .any L.toArray n = true)
    (h : wpStill P L.toArray w.drew (fun a' => wpList P L.toArray Q (L.drop n) a' w.drew) ((L.take n).drop 0) a) : (Code.region id L.toArray true).wp P Q a w := by
  rw [List.drop_zero] at h
  exact wp_region_still_tail n hm hB h
section
variable {P : Program} {L : List Oper} {w : World} {Q : Act → Prop} {a : Act} {o : Oper} {n : Nat}
theorem reg_rest (k : Nat) (hk : k < n) (ho : L[k]? = some o) : (L.take n).drop k = o :: (L.take n).drop (k + 1) := by
  have h1 : (L.take n)[k]? = some o := by rw [List.getElem?_take, if_pos hk]; exact ho
  obtain ⟨h2, h3⟩ := List.getElem?_eq_some_iff.1 h1
  rw [List.drop_eq_getElem_cons h2, h3]
theorem reg_no (k : Nat) (hk : k < n) (ho : L[k]? = some o) (hg : Region.wanted o (yielded L.toArray a.tmps) = false) (h : wpStill P L.toArray w Q ((L.take n).drop (k + 1)) (a.put o.dst undef)) : wpStill P L.toArray w Q ((L.take n).drop k) a := by
  rw [reg_rest k hk ho]
  exact wpStill_step fun K hK => by rw [if_neg (by rw [hg]; decide)]; exact hK _ h
theorem reg_do (k : Nat) (hk : k < n) (ho : L[k]? = some o) (hg : Region.wanted o (yielded L.toArray a.tmps) = true) (h : ∀ K : Act → Prop, (∀ a, wpStill P L.toArray w Q ((L.take n).drop (k + 1)) a → K a) → o.still P a w K) : wpStill P L.toArray w Q ((L.take n).drop k) a := by
  rw [reg_rest k hk ho]
  exact wpStill_step fun K hK => by rw [if_pos hg]; exact h K hK
theorem reg_end (h : Q a) : wpStill P L.toArray w Q ((L.take n).drop n) a := by
  rw [List.drop_eq_nil_of_le (by simp; omega)]
  exact wpStill_nil h
end
section
variable {P : Program} {L : List Oper} {w : World} {Q : Exit → Act → World → Prop} {a : Act} {o : Oper}
theorem reg_drop (k : Nat) (ho : L[k]? = some o) : L.drop k = o :: L.drop (k + 1) := by
  obtain ⟨h2, h3⟩ := List.getElem?_eq_some_iff.1 ho
  rw [List.drop_eq_getElem_cons h2, h3]
theorem tail_no (k : Nat) (ho : L[k]? = some o) (hg : Region.wanted o (yielded L.toArray a.tmps) = false) (h : wpList P L.toArray Q (L.drop (k + 1)) (a.put o.dst undef) w) : wpList P L.toArray Q (L.drop k) a w := by
  rw [reg_drop k ho]
  exact wpList_step fun K hK => by rw [if_neg (by rw [hg]; decide)]; exact hK _ _ h
theorem tail_do (k : Nat) (ho : L[k]? = some o) (hg : Region.wanted o (yielded L.toArray a.tmps) = true) (h : ∀ K : Act → World → Prop, (∀ a w, wpList P L.toArray Q (L.drop (k + 1)) a w → K a w) → o.wp P a w K Q) : wpList P L.toArray Q (L.drop k) a w := by
  rw [reg_drop k ho]
  exact wpList_step fun K hK => by rw [if_pos hg]; exact h K hK
theorem tail_end (k : Nat) (hl : L.length ≤ k) (h : wpList P L.toArray Q [] a w) : wpList P L.toArray Q (L.drop k) a w := by
  rw [List.drop_eq_nil_of_le hl]; exact h
end

end Go.Proofs.YtgobiejokgcmmaaDoor.Con
