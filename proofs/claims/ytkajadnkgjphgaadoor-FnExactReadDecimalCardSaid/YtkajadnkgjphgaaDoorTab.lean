/-
  Contracts of CodeName, OperatorText and OperatorOf (the model's and the program's), and the cells of the program's two tables. Condition: the table reads as the program's text lays it.
-/
import Derived.Test.YtkajadnkgjphgaaDoorOperI
import Derived.WalkSpells
import Derived.LaidMore
namespace Go.Proofs.YtkajadnkgjphgaaDoor.Con
open Go.RowKit

/-- The cells of a listed table of strings. -/
theorem strs_cell {P : Program} {W : World} {name : String} {L : List (List UInt8)} {g t e : Nat} (hG : P.globalNamed name = some g) (hT : (P.globals[g]?).map (·.type) = some t)
    (hU : P.underlying t = some (.array L.length e)) (hE : P.underlying e = some .string) (hC : P.cellsOf e = 1)
    (h : laidMet P [(name, .agg (L.map fun l => .lit (.string l)))] W) (i : Nat) (hi : i < L.length) : W.cell? ⟨g, i, none⟩ = some (.string ⟨(L.getD i []).toArray⟩) ∧ g < W.heap.size := by
  obtain ⟨ps, ⟨g', t', cs, fuel, p, q, hg, ht, hv, hd, _, _⟩, _, _⟩ := h
  obtain rfl := Option.some.inj (hG.symm.trans hg)
  obtain rfl := Option.some.inj (hT.symm.trans ht)
  obtain ⟨xs, m, _, ex, _, hl, hel⟩ := DataW.trod_array hU hd
  have hx := hel i hi
  rw [hC, Nat.mul_one, List.getElem?_eq_getElem (by omega)] at hx
  obtain ⟨s, e1, e2, _⟩ := DataW.trod_string hE hx
  have e3 : (xs.map (·.1)) = L.map fun l => .lit (.string l) := (DataW.agg.inj (Prod.mk.inj ex).1).symm
  have e4 : (xs.map (·.1))[i]? = (L.map fun l => (DataW.lit (.string l) : DataW Unit))[i]? := by rw [e3]
  rw [List.getElem?_map, List.getElem?_map, List.getElem?_eq_getElem (by omega : i < xs.length), List.getElem?_eq_getElem hi, e2] at e4
  simp only [Option.map_some, Option.some.injEq, DataW.lit.injEq, Lit.string.injEq] at e4
  have hs : s = ⟨(L.getD i []).toArray⟩ := by
    rw [List.getD, List.getElem?_eq_getElem hi]
    cases s
    simp only at e4
    simp [← e4]
  refine ⟨?_, ?_⟩
  · rw [World.var?_cell hg hv i, ← hs]
    have : cs.toList[i]? = some (.string s) := by
      have h0 : ((cs.toList.drop i).take 1)[0]? = some (.string s) := by rw [e1]; rfl
      simpa using h0
    simpa using this
  · unfold World.var? at hv
    rw [hg] at hv
    simp only [Option.bind_some] at hv
    cases hh : W.heap[g]? with
    | none => rw [hh] at hv; cases hv
    | some o => exact (Array.getElem?_eq_some_iff.1 hh).1

def codesL : List (List UInt8) := [[111, 107], [105, 110, 118, 97, 108, 105, 100], [114, 97, 110, 103, 101], [110, 111, 116, 102, 111, 117, 110, 100], [102, 117, 108, 108], [115, 116, 97, 116, 101], [115, 121, 110, 116, 97, 120], [110, 97, 109, 101], [116, 121, 112, 101], [108, 101, 118, 101, 108], [108, 105, 110, 101, 97, 114], [99, 108, 97, 115, 104], [98, 117, 100, 103, 101, 116], [114, 101, 97, 100], [102, 111, 114, 109, 97, 116]]
def opsL : List (List UInt8) := [[], [43], [45], [42], [47], [60], [61]]
def codeAt (i : Nat) : ByteArray := ⟨(codesL.getD i []).toArray⟩
def opAt (i : Nat) : ByteArray := ⟨(opsL.getD i []).toArray⟩
def codeV (n : Int) : ByteArray := if 0 ≤ n ∧ n ≤ 14 then codeAt n.toNat else ⟨#[]⟩
def opTextV (n : Int) : ByteArray := if 1 ≤ n ∧ n ≤ 6 then opAt n.toNat else ⟨#[]⟩
def inV (n lo hi : Int) : Bool := decide (lo ≤ n ∧ n ≤ hi)
theorem ret_s {a b : ByteArray} (h : a = b) : Ending.returned (.string a) = .returned (.string b) := by rw [h]

theorem spec_in (n lo hi : Int) (w : World) : Calls Tryd.prog 21 #[.int .i64 n, .int .i64 lo, .int .i64 hi] w fun e w' => e = .returned (.bool (inV n lo hi)) ∧ w = w' := by
  by_cases a : lo ≤ n <;> by_cases b : n ≤ hi <;> (
    go_enter Tryd.func21, Tryd.ntmps21
    go_wp2
    go_ret
    exact ⟨ret_b (by unfold inV; simp; omega), rfl⟩)

theorem codes (w : World) : Calls Tryd.prog 22 #[] w fun e w' =>
    e = .returned (.slice (some ⟨w.heap.size, 0, none⟩) 15 15) ∧ (∀ i, i < 15 → w'.cell? ⟨w.heap.size, i, none⟩ = some (.string (codeAt i))) ∧ Gw w w' := by
  have K : ∀ P : Ending → World → Prop, P (.returned (.slice (some ⟨w.heap.size, 0, none⟩) 15 15)) (w.alloc (.cells #[.string (codeAt 0), .string (codeAt 1), .string (codeAt 2), .string (codeAt 3), .string (codeAt 4), .string (codeAt 5), .string (codeAt 6), .string (codeAt 7), .string (codeAt 8), .string (codeAt 9), .string (codeAt 10), .string (codeAt 11), .string (codeAt 12), .string (codeAt 13), .string (codeAt 14)] 9)) →
      Calls Tryd.prog 22 #[] w P := by
    intro P h
    go_enter Tryd.func22, Tryd.ntmps22
    go_wp2
    exact h
  refine K _ ⟨rfl, fun i hi => ?_, (Gw.refl _).alloc _⟩
  obtain rfl | rfl | rfl | rfl | rfl | rfl | rfl | rfl | rfl | rfl | rfl | rfl | rfl | rfl | rfl : i = 0 ∨ i = 1 ∨ i = 2 ∨ i = 3 ∨ i = 4 ∨ i = 5 ∨ i = 6 ∨ i = 7 ∨ i = 8 ∨ i = 9 ∨ i = 10 ∨ i = 11 ∨ i = 12 ∨ i = 13 ∨ i = 14 := by omega
  all_goals go_cell

theorem opers (w : World) : Calls Tryd.prog 23 #[] w fun e w' =>
    e = .returned (.slice (some ⟨w.heap.size, 0, none⟩) 6 6) ∧ (∀ i, i < 6 → w'.cell? ⟨w.heap.size, i, none⟩ = some (.string (opAt (i + 1)))) ∧ Gw w w' := by
  have K : ∀ P : Ending → World → Prop, P (.returned (.slice (some ⟨w.heap.size, 0, none⟩) 6 6)) (w.alloc (.cells #[.string (opAt 1), .string (opAt 2), .string (opAt 3), .string (opAt 4), .string (opAt 5), .string (opAt 6)] 9)) →
      Calls Tryd.prog 23 #[] w P := by
    intro P h
    go_enter Tryd.func23, Tryd.ntmps23
    go_wp2
    exact h
  refine K _ ⟨rfl, fun i hi => ?_, (Gw.refl _).alloc _⟩
  obtain rfl | rfl | rfl | rfl | rfl | rfl : i = 0 ∨ i = 1 ∨ i = 2 ∨ i = 3 ∨ i = 4 ∨ i = 5 := by omega
  all_goals go_cell

theorem spec_code (n : Int) (w : World) : Calls Tryd.prog 8 #[.int .i64 n] w fun e w' => e = .returned (.string (codeV n)) ∧ Gw w w' := by
  by_cases hn : 0 ≤ n ∧ n ≤ 14
  · obtain ⟨k, rfl⟩ : ∃ k : Nat, n = k := ⟨n.toNat, by omega⟩
    have hk : k < 15 := by omega
    have d : inV k 0 14 = true := decide_eq_true hn
    have F := Lib.hid (show codeAt k = codeV k from by unfold codeV; rw [if_pos hn]; rfl)
    clear hn
    go_enter Tryd.func8, Tryd.ntmps8
    go_wp2_with (first | (go_at_call 21; refine (spec_in _ _ _ _).mono ?_; rintro e w' ⟨rfl, rfl⟩) | (go_at_call 22; refine (codes _).mono ?_; rintro e w' ⟨rfl, hc0, hg0⟩; have hc := hc0 k hk; clear hc0))
    go_ret
    exact ⟨ret_s F.out, by assumption⟩
  · have d : inV n 0 14 = false := decide_eq_false hn
    have F := Lib.hid (show ⟨#[]⟩ = codeV n from by unfold codeV; rw [if_neg hn])
    clear hn
    go_enter Tryd.func8, Tryd.ntmps8
    go_wp2_with (go_at_call 21; refine (spec_in _ _ _ _).mono ?_; rintro e w' ⟨rfl, rfl⟩)
    go_ret
    exact ⟨ret_s F.out, Gw.refl _⟩

theorem impl_code (n : Int) (w : World) (hT : ∀ i, i < 15 → w.cell? ⟨0, i, none⟩ = some (.string (codeAt i))) : Calls Tryd.prog 9 #[.int .i64 n] w fun e w' => e = .returned (.string (codeV n)) ∧ w = w' := by
  by_cases h0 : 0 ≤ n
  · by_cases h1 : n ≤ 14
    · obtain ⟨k, rfl⟩ : ∃ k : Nat, n = k := ⟨n.toNat, by omega⟩
      have hc := hT k (by omega)
      clear hT
      have F := Lib.hid (show codeAt k = codeV k from by unfold codeV; rw [if_pos ⟨h0, h1⟩]; rfl)
      go_enter Tryd.func9, Tryd.ntmps9
      go_wp2
      go_ret
      exact ⟨ret_s F.out, rfl⟩
    · clear hT
      have F := Lib.hid (show ⟨#[]⟩ = codeV n from by unfold codeV; rw [if_neg (fun z => h1 z.2)])
      go_enter Tryd.func9, Tryd.ntmps9
      go_wp2
      go_ret
      exact ⟨ret_s F.out, rfl⟩
  · clear hT
    have F := Lib.hid (show ⟨#[]⟩ = codeV n from by unfold codeV; rw [if_neg (fun z => h0 z.1)])
    go_enter Tryd.func9, Tryd.ntmps9
    go_wp2
    go_ret
    exact ⟨ret_s F.out, rfl⟩

theorem spec_optext (n : Int) (w : World) : Calls Tryd.prog 10 #[.int .i64 n] w fun e w' => e = .returned (.string (opTextV n)) ∧ Gw w w' := by
  by_cases hn : 1 ≤ n ∧ n ≤ 6
  · obtain ⟨k, rfl⟩ : ∃ k : Nat, n = (k : Int) + 1 := ⟨(n - 1).toNat, by omega⟩
    have hk : k < 6 := by omega
    have d : inV ((k : Int) + 1) 1 6 = true := decide_eq_true hn
    have F := Lib.hid (show opAt (k + 1) = opTextV ((k : Int) + 1) from by unfold opTextV; rw [if_pos hn]; rfl)
    clear hn
    go_enter Tryd.func10, Tryd.ntmps10
    go_wp2_with (first | (go_at_call 21; refine (spec_in _ _ _ _).mono ?_; rintro e w' ⟨rfl, rfl⟩) | (go_at_call 23; refine (opers _).mono ?_; rintro e w' ⟨rfl, hc0, hg0⟩; have hc := hc0 k hk; clear hc0))
    go_ret
    exact ⟨ret_s F.out, by assumption⟩
  · have d : inV n 1 6 = false := decide_eq_false hn
    have F := Lib.hid (show ⟨#[]⟩ = opTextV n from by unfold opTextV; rw [if_neg hn])
    clear hn
    go_enter Tryd.func10, Tryd.ntmps10
    go_wp2_with (go_at_call 21; refine (spec_in _ _ _ _).mono ?_; rintro e w' ⟨rfl, rfl⟩)
    go_ret
    exact ⟨ret_s F.out, Gw.refl _⟩

theorem impl_optext (n : Int) (w : World) (hT : ∀ i, i < 7 → w.cell? ⟨1, i, none⟩ = some (.string (opAt i))) : Calls Tryd.prog 11 #[.int .i64 n] w fun e w' => e = .returned (.string (opTextV n)) ∧ w = w' := by
  by_cases hn : 1 ≤ n ∧ n ≤ 6
  · obtain ⟨k, rfl⟩ : ∃ k : Nat, n = k := ⟨n.toNat, by omega⟩
    have hc := hT k (by omega)
    have hk : k < 7 := by omega
    clear hT
    have d : isopV k = true := decide_eq_true hn
    have F := Lib.hid (show opAt k = opTextV k from by unfold opTextV; rw [if_pos hn]; rfl)
    clear hn
    go_enter Tryd.func11, Tryd.ntmps11
    go_wp2_with (go_at_call 24; refine (impl_isop _ _).mono ?_; rintro e w' ⟨rfl, rfl⟩)
    go_ret
    exact ⟨ret_s F.out, rfl⟩
  · clear hT
    have d : isopV n = false := decide_eq_false hn
    have F := Lib.hid (show ⟨#[]⟩ = opTextV n from by unfold opTextV; rw [if_neg hn])
    clear hn
    go_enter Tryd.func11, Tryd.ntmps11
    go_wp2_with (go_at_call 24; refine (impl_isop _ _).mono ?_; rintro e w' ⟨rfl, rfl⟩)
    go_ret
    exact ⟨ret_s F.out, rfl⟩

/-- The operator with a text, 0 if there is none. -/
def opOfV (l : List UInt8) : Int := if l = [43] then 1 else if l = [45] then 2 else if l = [42] then 3 else if l = [47] then 4 else if l = [60] then 5 else if l = [61] then 6 else 0

theorem opAt_list (k : Nat) : (opAt k).toList = opsL.getD k [] := by unfold opAt; rw [ByteArray.toList_eq]

theorem opOf_at (l : List UInt8) (k : Nat) (h0 : 1 ≤ k) (h : k < 7) (e : (opAt k).toList = l) : opOfV l = k := by
  rw [opAt_list k] at e
  subst e
  obtain rfl | rfl | rfl | rfl | rfl | rfl : k = 1 ∨ k = 2 ∨ k = 3 ∨ k = 4 ∨ k = 5 ∨ k = 6 := by omega
  all_goals decide +kernel

theorem opOf_none (l : List UInt8) (h : ∀ k, 1 ≤ k → k < 7 → (opAt k).toList ≠ l) : opOfV l = 0 := by
  have e : ∀ k, 1 ≤ k → k < 7 → opsL.getD k [] ≠ l := fun k a b => by rw [← opAt_list k]; exact h k a b
  have e1 : ([43] : List UInt8) ≠ l := e 1 (by omega) (by omega)
  have e2 : ([45] : List UInt8) ≠ l := e 2 (by omega) (by omega)
  have e3 : ([42] : List UInt8) ≠ l := e 3 (by omega) (by omega)
  have e4 : ([47] : List UInt8) ≠ l := e 4 (by omega) (by omega)
  have e5 : ([60] : List UInt8) ≠ l := e 5 (by omega) (by omega)
  have e6 : ([61] : List UInt8) ≠ l := e 6 (by omega) (by omega)
  unfold opOfV
  rw [if_neg e1.symm, if_neg e2.symm, if_neg e3.symm, if_neg e4.symm, if_neg e5.symm, if_neg e6.symm]

set_option maxHeartbeats 400000 in
theorem spec_opof (s : ByteArray) (w : World) : Calls Tryd.prog 12 #[.string s] w fun e w' => e = .returned (.int .i64 (opOfV s.toList)) ∧ Gw w w' := by
  go_enter Tryd.func12, Tryd.ntmps12
  go_wp2_with fail
  go_loopw [3] (fun i wr => ∃ k : Nat, k ≤ 6 ∧ i = .int .i64 k ∧ (∀ j, 1 ≤ j → j ≤ k → (opAt j).toList ≠ s.toList) ∧ Gw w wr) (fun i _ => 6 - (intOf i).toNat)
  case atStart => exact ⟨0, by omega, rfl, fun j hj => by omega, Gw.refl _⟩
  case round =>
    obtain ⟨k, hk, rfl, hno0, hg⟩ := hrel
    have hno := Lib.hid hno0
    clear hno0
    by_cases hlt : k < 6
    · by_cases hq : (opAt (k + 1)).toList = s.toList
      · have F := Lib.hid (show (k : Int) + 1 = opOfV s.toList from by rw [opOf_at _ (k + 1) (by omega) (by omega) hq]; rfl)
        have hq' : ((opAt (k + 1)).toList == s.toList) = true := by simpa using hq
        clear hq
        go_wp2_with (go_at_call 23; refine (opers _).mono ?_; rintro e w' ⟨rfl, hc0, hg0⟩; have hc := hc0 k hlt; clear hc0)
        go_ret
        exact ⟨ret_i F.out, (hg.trans (Gw.trans (by assumption) (by assumption)))⟩
      · have hq' : ((opAt (k + 1)).toList == s.toList) = false := by simpa using hq
        have hq2 := Lib.hid hq
        clear hq
        go_wp2_with (go_at_call 23; refine (opers _).mono ?_; rintro e w' ⟨rfl, hc0, hg0⟩; have hc := hc0 k hlt; clear hc0)
        go_roundw
        case rel => exact ⟨k + 1, by omega, by go_num, fun j h1 hj => if h : j = k + 1 then h ▸ hq2.out else hno.out j h1 (by omega), (hg.trans (Gw.trans (by assumption) (by assumption)))⟩
        case measure => simp [intOf]; omega
    · have F := Lib.hid (opOf_none _ fun j h1 h2 => hno.out j h1 (by omega)).symm
      go_wp2_with (go_at_call 23; refine (opers _).mono ?_; rintro e w' ⟨rfl, hc0, hg0⟩; clear hc0)
      go_ret
      exact ⟨ret_i F.out, hg.trans (by assumption)⟩

set_option maxHeartbeats 400000 in
theorem impl_opof (s : ByteArray) (w : World) (hT0 : ∀ i, i < 7 → w.cell? ⟨1, i, none⟩ = some (.string (opAt i))) : Calls Tryd.prog 13 #[.string s] w fun e w' => e = .returned (.int .i64 (opOfV s.toList)) ∧ w = w' := by
  have hT := Lib.hid hT0
  clear hT0
  go_enter Tryd.func13, Tryd.ntmps13
  go_wp2_with fail
  go_loop [3] (fun i => ∃ k : Nat, 1 ≤ k ∧ k ≤ 7 ∧ i = .int .i64 k ∧ (∀ j, 1 ≤ j → j < k → (opAt j).toList ≠ s.toList)) (fun i => 7 - (intOf i).toNat)
  case atStart => exact ⟨1, by omega, by omega, rfl, fun j hj => by omega⟩
  case round =>
    obtain ⟨k, hk1, hk, rfl, hno0⟩ := hrel
    have hno := Lib.hid hno0
    clear hno0
    by_cases hlt : k < 7
    · have hc := hT.out k hlt
      by_cases hq : (opAt k).toList = s.toList
      · have F := Lib.hid (show (k : Int) = opOfV s.toList from by rw [opOf_at _ k (by omega) (by omega) hq])
        have hq' : ((opAt k).toList == s.toList) = true := by simpa using hq
        clear hq
        go_wp2
        go_ret
        exact ⟨ret_i F.out, rfl⟩
      · have hq' : ((opAt k).toList == s.toList) = false := by simpa using hq
        have hq2 := Lib.hid hq
        clear hq
        go_wp2
        go_round
        case rel => exact ⟨k + 1, by omega, by omega, by go_num, fun j h1 hj => if h : j = k then h ▸ hq2.out else hno.out j h1 (by omega)⟩
        case measure => simp [intOf]; omega
    · have F := Lib.hid (opOf_none _ fun j h1 h2 => hno.out j h1 (by omega)).symm
      go_wp2
      go_ret
      exact ⟨ret_i F.out, rfl⟩

end Go.Proofs.YtkajadnkgjphgaaDoor.Con
