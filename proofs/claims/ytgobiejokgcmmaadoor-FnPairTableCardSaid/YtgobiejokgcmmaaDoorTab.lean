/-
  Contracts of CodeName, OperatorText and OperatorOf (the model's and the program's), and the cells of the program's two tables. Condition: the table reads as the program's text lays it.
  One listed variable out of a list of them; a listed table of integers; how many variables are read. No program in it, no condition.
-/
import Derived.Test.YtgobiejokgcmmaaDoorOperI
import Derived.WalkSpells
import Derived.LaidMore
import Derived.LaidLaws
namespace Go.Proofs.YtgobiejokgcmmaaDoor.Con
open Go.RowKit

/-- The cells of a listed table of strings. -/
theorem strs_cell {P : Program} {W : World} {name : String} {L : List (List UInt8)} {g t e : Nat} (hG : P.globalNamed name = some g) (hT : (P.globals[g]?).map (·.type) = some t)
    (hU : P.underlying t = some (.array L.length e)) (hE : P.underlying e = some .string) (hC : P.cellsOf e = 1)
    (h : laidMet P [(name, .agg (L.map fun l => .lit (.string l)))] W) (i : Nat) (hi : i < L.length) : W.cell? ⟨g, i, none⟩ = some (.string ⟨(L.getD i []).toArray⟩) ∧ g < W.heap.size := by
  obtain ⟨ps, ⟨g', t', cs, fuel, p, q, hg, ht, hv, hd, _, _⟩, _, _⟩ := h
  obtain rfl := Option.some.inj (hG.symm.trans hg)
  obtain rfl := Option.some.inj (hT.symm.trans ht)
  obtain ⟨xs, m, _, ex, _, hl, hel⟩ := DataW.trod_array hU hd
  have hx := hel i hi
  rw [hC, Nat.mul_one, List.getElem?_eq_getElem (by omega)] at hx
  obtain ⟨s, e1, e2, _⟩ := DataW.trod_string hE hx
  have e3 : (xs.map (·.1)) = L.map fun l => .lit (.string l) := (DataW.agg.inj (Prod.mk.inj ex).1).symm
  have e4 : (xs.map (·.1))[i]? = (L.map fun l => (DataW.lit (.string l) : DataW Unit))[i]? := by rw [e3]
  rw [List.getElem?_map, List.getElem?_map, List.getElem?_eq_getElem (by omega : i < xs.length), List.getElem?_eq_getElem hi, e2] at e4
  simp only [Option.map_some, Option.some.injEq, DataW.lit.injEq, Lit.string.injEq] at e4
  have hs : s = ⟨(L.getD i []).toArray⟩ := by
    rw [List.getD, List.getElem?_eq_getElem hi]
    cases s
    simp only at e4
    simp [← e4]
  refine ⟨?_, ?_⟩
  · rw [World.var?_cell hg hv i, ← hs]
    have : cs.toList[i]? = some (.string s) := by
      have h0 : ((cs.toList.drop i).take 1)[0]? = some (.string s) := by rw [e1]; rfl
      simpa using h0
    simpa using this
  · unfold World.var? at hv
    rw [hg] at hv
    simp only [Option.bind_some] at hv
    cases hh : W.heap[g]? with
    | none => rw [hh] at hv; cases hv
    | some o => exact (Array.getElem?_eq_some_iff.1 hh).1

def codesL : List (List UInt8) := [[111, 107], [105, 110, 118, 97, 108, 105, 100], [114, 97, 110, 103, 101], [110, 111, 116, 102, 111, 117, 110, 100], [102, 117, 108, 108], [115, 116, 97, 116, 101], [115, 121, 110, 116, 97, 120], [110, 97, 109, 101], [116, 121, 112, 101], [108, 101, 118, 101, 108], [108, 105, 110, 101, 97, 114], [99, 108, 97, 115, 104], [98, 117, 100, 103, 101, 116], [114, 101, 97, 100], [102, 111, 114, 109, 97, 116]]
def opsL : List (List UInt8) := [[], [43], [45], [42], [47], [60], [61]]
def codeAt (i : Nat) : ByteArray := ⟨(codesL.getD i []).toArray⟩
def opAt (i : Nat) : ByteArray := ⟨(opsL.getD i []).toArray⟩
def codeV (n : Int) : ByteArray := if 0 ≤ n ∧ n ≤ 14 then codeAt n.toNat else ⟨#[]⟩
def opTextV (n : Int) : ByteArray := if 1 ≤ n ∧ n ≤ 6 then opAt n.toNat else ⟨#[]⟩
theorem ret_s {a b : ByteArray} (h : a = b) : Ending.returned (.string a) = .returned (.string b) := by rw [h]

/-- The operator with a text, 0 if there is none. -/
def opOfV (l : List UInt8) : Int := if l = [43] then 1 else if l = [45] then 2 else if l = [42] then 3 else if l = [47] then 4 else if l = [60] then 5 else if l = [61] then 6 else 0

theorem opAt_list (k : Nat) : (opAt k).toList = opsL.getD k [] := by unfold opAt; rw [ByteArray.toList_eq]

theorem opOf_at (l : List UInt8) (k : Nat) (h0 : 1 ≤ k) (h : k < 7) (e : (opAt k).toList = l) : opOfV l = k := by
  rw [opAt_list k] at e
  subst e
  obtain rfl | rfl | rfl | rfl | rfl | rfl : k = 1 ∨ k = 2 ∨ k = 3 ∨ k = 4 ∨ k = 5 ∨ k = 6 := by omega
  all_goals decide +kernel

theorem opOf_none (l : List UInt8) (h : ∀ k, 1 ≤ k → k < 7 → (opAt k).toList ≠ l) : opOfV l = 0 := by
  have e : ∀ k, 1 ≤ k → k < 7 → opsL.getD k [] ≠ l := fun k a b => by rw [← opAt_list k]; exact h k a b
  have e1 : ([43] : List UInt8) ≠ l := e 1 (by omega) (by omega)
  have e2 : ([45] : List UInt8) ≠ l := e 2 (by omega) (by omega)
  have e3 : ([42] : List UInt8) ≠ l := e 3 (by omega) (by omega)
  have e4 : ([47] : List UInt8) ≠ l := e 4 (by omega) (by omega)
  have e5 : ([60] : List UInt8) ≠ l := e 5 (by omega) (by omega)
  have e6 : ([61] : List UInt8) ≠ l := e 6 (by omega) (by omega)
  unfold opOfV
  rw [if_neg e1.symm, if_neg e2.symm, if_neg e3.symm, if_neg e4.symm, if_neg e5.symm, if_neg e6.symm]

end Go.Proofs.YtgobiejokgcmmaaDoor.Con

namespace Go.Proofs.YtgobiejokgcmmaaDoor.Con
open Go.RowKit

theorem laidVars_sub {P : Program} {W : World} : ∀ {l : List (String × DataW Unit)} {ps : List MemPlace}, DataW.LaidVars P W l ps → ∀ x ∈ l, ∃ qs, DataW.LaidVars P W [x] qs ∧ qs.Sublist ps
  | [], _, _, x, hx => by cases hx
  | (n, d) :: r, ps, h, x, hx => by
    obtain ⟨g, t, cs, fuel, p, q, h1, h2, h3, h4, h5, rfl⟩ := h
    rcases List.mem_cons.1 hx with rfl | hx
    · exact ⟨_, ⟨g, t, cs, fuel, p, [], h1, h2, h3, h4, rfl, rfl⟩, by rw [List.append_nil]; exact List.sublist_append_left _ _⟩
    · obtain ⟨qs, k1, k2⟩ := laidVars_sub h5 x hx
      exact ⟨qs, k1, k2.trans (List.sublist_append_right _ _)⟩
theorem laidMet_one {P : Program} {W : World} {l : List (String × DataW Unit)} (h : laidMet P l W) (x : String × DataW Unit) (hx : x ∈ l) : laidMet P [x] W := by
  obtain ⟨ps, h1, h2, h3⟩ := h
  obtain ⟨qs, k1, k2⟩ := laidVars_sub h1 x hx
  exact ⟨qs, k1, k2.nodup h2, fun b off hm => h3 b off (k2.subset hm)⟩

theorem ints_cell {P : Program} {W : World} {name : String} {L : List Int} {g t e : Nat} (hG : P.globalNamed name = some g) (hT : (P.globals[g]?).map (·.type) = some t)
    (hU : P.underlying t = some (.array L.length e)) (hE : P.underlying e = some (.int .i64)) (hC : P.cellsOf e = 1)
    (h : laidMet P [(name, .agg (L.map fun n => .lit (.int .i64 n)))] W) (i : Nat) (hi : i < L.length) : W.cell? ⟨g, i, none⟩ = some (.int .i64 (L.getD i 0)) := by
  obtain ⟨ps, ⟨g', t', cs, fuel, p, q, hg, ht, hv, hd, _, _⟩, _, _⟩ := h
  obtain rfl := Option.some.inj (hG.symm.trans hg)
  obtain rfl := Option.some.inj (hT.symm.trans ht)
  obtain ⟨xs, m, _, ex, _, hl, hel⟩ := DataW.trod_array hU hd
  have hx := hel i hi
  rw [hC, Nat.mul_one, List.getElem?_eq_getElem (by omega)] at hx
  obtain ⟨s, e1, e2, _⟩ := DataW.trod_int hE hx
  have e3 : (xs.map (·.1)) = L.map fun n => .lit (.int .i64 n) := (DataW.agg.inj (Prod.mk.inj ex).1).symm
  have e4 : (xs.map (·.1))[i]? = (L.map fun n => (DataW.lit (.int .i64 n) : DataW Unit))[i]? := by rw [e3]
  rw [List.getElem?_map, List.getElem?_map, List.getElem?_eq_getElem (by omega : i < xs.length), List.getElem?_eq_getElem hi, e2] at e4
  simp only [Option.map_some, Option.some.injEq, DataW.lit.injEq, Lit.int.injEq, true_and] at e4
  have hs : s = L.getD i 0 := by rw [List.getD, List.getElem?_eq_getElem hi, e4]; rfl
  rw [World.var?_cell hg hv i, ← hs]
  have : cs.toList[i]? = some (.int .i64 s) := by
    have h0 : ((cs.toList.drop i).take 1)[0]? = some (.int .i64 s) := by rw [e1]; rfl
    simpa using h0
  simpa using this

theorem trodVars_len {H : Type} {enc : TypeId × Value → H} {P : Program} {w : World} {sp : Nat → Bool} : ∀ {ns : List String} {gs : List (DataW H)} {ps : List MemPlace}, DataW.TrodVars enc P w sp ns gs ps → gs.length = ns.length
  | [], [], _, _ => rfl
  | [], _ :: _, _, h => h.elim
  | _ :: _, [], _, h => h.elim
  | _ :: _, _ :: _, _, h => by
    obtain ⟨g, t, cs, fuel, p, q, h1, h2, h3, h4, hs, e⟩ := h
    simp [trodVars_len hs]
theorem trodVars_three {H : Type} {enc : TypeId × Value → H} {P : Program} {w : World} {sp : Nat → Bool} {a b c : String} {gs : List (DataW H)} {ps : List MemPlace} (h : DataW.TrodVars enc P w sp [a, b, c] gs ps) : ∃ g0 g1 g2, gs = [g0, g1, g2] := by
  have hl := trodVars_len h
  match gs, hl with
  | [x, y, z], _ => exact ⟨x, y, z, rfl⟩

end Go.Proofs.YtgobiejokgcmmaaDoor.Con
