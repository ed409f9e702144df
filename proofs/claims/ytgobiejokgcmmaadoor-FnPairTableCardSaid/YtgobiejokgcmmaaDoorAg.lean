/-
  Chapter 10 as functions of numbers: names, ports, levels, which kinds a set of kinds holds, the class of a pair, the first of a pair, growth. No program in it, no condition.
  Listed tables: rows of whole numbers (an array of arrays), rows of a text and a number. No program in it, no condition but that the table reads as listed.
-/
import Derived.Test.YtgobiejokgcmmaaDoorTab
import Derived.Test.YtgobiejokgcmmaaDoorReg
namespace Go.Proofs.YtgobiejokgcmmaaDoor.Con
open Go.RowKit
set_option linter.unusedVariables false

def kindsL : List (List UInt8) := [[114, 111, 111, 116], [108, 97, 109], [97, 112, 112], [102, 97, 110], [101, 114, 97], [110, 117, 109], [111, 112], [111, 112, 49], [99, 111, 110], [109, 97, 116], [115, 119, 105], [114, 101, 102]]
def classesL : List (List UInt8) := [[98, 101, 116, 97], [97, 110, 110, 105, 104, 105, 108, 97, 116, 101], [100, 117, 112, 108, 105, 99, 97, 116, 101], [101, 114, 97, 115, 101], [111, 112, 101, 114, 97, 116, 101], [99, 104, 111, 111, 115, 101], [101, 120, 112, 97, 110, 100], [99, 108, 97, 115, 104]]
def kindAt (i : Nat) : ByteArray := ⟨(kindsL.getD i []).toArray⟩
def classAt (i : Nat) : ByteArray := ⟨(classesL.getD i []).toArray⟩
def kindTextV (n : Int) : ByteArray := if 1 ≤ n ∧ n ≤ 12 then kindAt (n - 1).toNat else ⟨#[]⟩
def classTextV (n : Int) : ByteArray := if 1 ≤ n ∧ n ≤ 8 then classAt (n - 1).toNat else ⟨#[]⟩

/-- The kind with a name, 0 if there is none. -/
def kindOfV (l : List UInt8) : Int := if l = kindsL.getD 0 [] then 1 else if l = kindsL.getD 1 [] then 2 else if l = kindsL.getD 2 [] then 3 else if l = kindsL.getD 3 [] then 4 else if l = kindsL.getD 4 [] then 5 else if l = kindsL.getD 5 [] then 6 else if l = kindsL.getD 6 [] then 7 else if l = kindsL.getD 7 [] then 8 else if l = kindsL.getD 8 [] then 9 else if l = kindsL.getD 9 [] then 10 else if l = kindsL.getD 10 [] then 11 else if l = kindsL.getD 11 [] then 12 else 0

theorem kindAt_list (k : Nat) : (kindAt k).toList = kindsL.getD k [] := by unfold kindAt; rw [ByteArray.toList_eq]

theorem kindOf_at (l : List UInt8) (k : Nat) (h : k < 12) (e : (kindAt k).toList = l) : kindOfV l = (k : Int) + 1 := by
  rw [kindAt_list k] at e
  subst e
  obtain rfl | rfl | rfl | rfl | rfl | rfl | rfl | rfl | rfl | rfl | rfl | rfl : k = 0 ∨ k = 1 ∨ k = 2 ∨ k = 3 ∨ k = 4 ∨ k = 5 ∨ k = 6 ∨ k = 7 ∨ k = 8 ∨ k = 9 ∨ k = 10 ∨ k = 11 := by omega
  all_goals decide +kernel

theorem kindOf_none (l : List UInt8) (h : ∀ k, k < 12 → (kindAt k).toList ≠ l) : kindOfV l = 0 := by
  have e : ∀ k, k < 12 → ¬ l = kindsL.getD k [] := fun k a b => h k a (by rw [kindAt_list k, b])
  unfold kindOfV
  rw [if_neg (e 0 (by omega)), if_neg (e 1 (by omega)), if_neg (e 2 (by omega)), if_neg (e 3 (by omega)), if_neg (e 4 (by omega)), if_neg (e 5 (by omega)), if_neg (e 6 (by omega)), if_neg (e 7 (by omega)), if_neg (e 8 (by omega)), if_neg (e 9 (by omega)), if_neg (e 10 (by omega)), if_neg (e 11 (by omega))]

def lvlV (k : Int) : Bool := decide ((2 ≤ k ∧ k ≤ 4) ∨ (7 ≤ k ∧ k ≤ 12))
def consV (k : Int) : Bool := decide (k = 3 ∨ k = 7 ∨ k = 8 ∨ k = 10 ∨ k = 11)
def allowV (k l : Int) : Bool := if lvlV k = true then inV l 0 8 else (inV k 1 12 && (l == 0))
def dupV (a k l : Int) : Bool := inV a 0 8 && (allowV k l && (decide (k = 6 ∨ k = 12) || (lvlV k && decide (a < l))))
def portsV (k f : Int) : Int := if k = 9 then (if inV f 0 3 = true then 1 + f else 0) else if f = 0 then (if k = 1 ∨ k = 5 ∨ k = 6 ∨ k = 12 then 1 else if k = 8 ∨ k = 10 ∨ k = 11 then 2 else if k = 2 ∨ k = 3 ∨ k = 4 ∨ k = 7 then 3 else 0) else 0

/-- Is the number k in the set of bits s? -/
def bitV (s k : Int) : Bool := decide (0 ≤ k) && (s / 2 ^ k.toNat % 2 == 1)

theorem bit_16 (s k : Int) (h0 : 0 ≤ s) (h : s < 65536) (hk : ¬ (0 ≤ k ∧ k ≤ 15)) : bitV s k = false := by
  unfold bitV
  by_cases c : 0 ≤ k
  · have h16 : 16 ≤ k.toNat := by omega
    have : s / 2 ^ k.toNat = 0 := by
      apply Int.ediv_eq_zero_of_lt h0
      have hp : (65536 : Nat) ≤ 2 ^ k.toNat := Nat.pow_le_pow_right (n := 2) (by decide) h16
      have hq : ((2 ^ k.toNat : Nat) : Int) = (2 : Int) ^ k.toNat := by simp
      omega
    rw [this]; simp
  · simp [c]

theorem bit_all (s : Int) (h0 : 0 ≤ s) (h : s < 65536) (p : Int → Bool) (hp : ∀ k : Fin 16, bitV s (k.val : Int) = p (k.val : Int)) (hn : ∀ k, ¬ (0 ≤ k ∧ k ≤ 15) → p k = false) (k : Int) : bitV s k = p k := by
  by_cases hk : 0 ≤ k ∧ k ≤ 15
  · obtain ⟨n, rfl⟩ : ∃ n : Nat, k = n := ⟨k.toNat, by omega⟩
    exact hp ⟨n, by omega⟩
  · rw [bit_16 s k h0 h hk, hn k hk]

theorem bit_cons (k : Int) : bitV 3464 k = consV k := bit_all 3464 (by decide) (by decide) consV (by decide +kernel) (fun k h => by unfold consV; apply decide_eq_false; omega) k
theorem bit_lvl (k : Int) : bitV 8092 k = lvlV k := bit_all 8092 (by decide) (by decide) lvlV (by decide +kernel) (fun k h => by unfold lvlV; apply decide_eq_false; omega) k
theorem bit_pair (k : Int) : bitV 8188 k = inV k 2 12 := bit_all 8188 (by decide) (by decide) (fun k => inV k 2 12) (by decide +kernel) (fun k h => by unfold inV; apply decide_eq_false; omega) k
theorem bit_all12 (k : Int) : bitV 8190 k = inV k 1 12 := bit_all 8190 (by decide) (by decide) (fun k => inV k 1 12) (by decide +kernel) (fun k h => by unfold inV; apply decide_eq_false; omega) k

/-- The class of a pair whose first agent a rule names first, 0 if there is none. -/
def ruleV (ka la kb lb : Int) : Int :=
  if ka = 5 then 4 else if ka = 4 then (if kb = 4 ∧ la = lb then 2 else if dupV la kb lb = true then 3 else 0) else if ka = 2 then (if kb = 3 ∧ la = lb then 1 else 0)
  else if ka = 6 then (if kb = 7 ∨ kb = 8 then 5 else if kb = 11 then 6 else 0) else if ka = 9 then (if kb = 10 then 6 else 0) else if ka = 12 then (if consV kb = true then 7 else 0) else 0
def okPV (k l : Int) : Bool := allowV k l && !(k == 1)
def pairV (ka la kb lb : Int) : Int := if okPV ka la = true ∧ okPV kb lb = true then (if ruleV ka la kb lb = 0 then (if ruleV kb lb ka la = 0 then 8 else ruleV kb lb ka la) else ruleV ka la kb lb) else 0
def firstV (ka la kb lb : Int) : Int := if okPV ka la = true ∧ okPV kb lb = true then (if ruleV ka la kb lb = 0 then (if ruleV kb lb ka la = 0 then 0 else 2) else 1) else 0

/-- The program's table of pairs. -/
def pairsL : List (List Int) :=
  [[0, 0, 0, 0, 0, 0, 0, 0, 0, 0, 0, 0, 0], [0, 0, 8, 0, 0, 0, 0, 0, 0, 0, 0, 0, 0], [0, 0, 0, 0, 16, 0, 0, 0, 0, 0, 0, 0, 0], [0, 0, 0, 0, 8156, 0, 0, 0, 0, 0, 0, 0, 0], [0, 0, 0, 0, 0, 8188, 0, 0, 0, 0, 0, 0, 0],
   [0, 0, 0, 0, 0, 0, 384, 0, 0, 0, 0, 0, 0], [0, 0, 0, 0, 0, 0, 2048, 0, 0, 1024, 0, 0, 0], [0, 0, 0, 0, 0, 0, 0, 0, 0, 0, 0, 0, 3464]]
def pairsAt (c k : Nat) : Int := (pairsL.getD c []).getD k 0
theorem pairs_in (c k : Nat) : 0 ≤ pairsAt c k ∧ pairsAt c k < 65536 := by
  by_cases hc : c < 8
  · by_cases hk : k < 13
    · have : ∀ (c : Fin 8) (k : Fin 13), 0 ≤ pairsAt c.val k.val ∧ pairsAt c.val k.val < 65536 := by decide +kernel
      exact this ⟨c, hc⟩ ⟨k, hk⟩
    · have : ∀ c : Fin 8, (pairsL.getD c.val []).length = 13 := by decide +kernel
      have h1 := this ⟨c, hc⟩
      unfold pairsAt
      rw [List.getD, List.getElem?_eq_none (by simp only at h1; omega)]
      decide
  · unfold pairsAt
    rw [show pairsL.getD c [] = [] by rw [List.getD, List.getElem?_eq_none (by simp [pairsL]; omega)]; rfl]
    simp

/-- Do the levels of a pair fit its class? -/
def lfV (c la kb lb : Int) : Bool := if c = 1 ∨ c = 2 then decide (la = lb) else if c = 3 then dupV la kb lb else true
/-- Is c the class of a pair in this order? -/
def fitV (ka la kb lb : Int) (c : Nat) : Bool := bitV (pairsAt c ka.toNat) kb && lfV c la kb lb

def cioF (ka kb : Nat) (q d : Bool) (c : Nat) : Bool := bitV (pairsAt c ka) kb && (if c = 1 ∨ c = 2 then q else if c = 3 then d else true)
def ruleF (ka kb : Nat) (q d : Bool) : Int :=
  if ka = 5 then 4 else if ka = 4 then (if kb = 4 ∧ q = true then 2 else if d = true then 3 else 0) else if ka = 2 then (if kb = 3 ∧ q = true then 1 else 0)
  else if ka = 6 then (if kb = 7 ∨ kb = 8 then 5 else if kb = 11 then 6 else 0) else if ka = 9 then (if kb = 10 then 6 else 0) else if ka = 12 then (if kb = 3 ∨ kb = 7 ∨ kb = 8 ∨ kb = 10 ∨ kb = 11 then 7 else 0) else 0
/-- Which classes fit, but for the levels of kinds that do not fit each other. -/
def needD (kb : Nat) (d : Bool) : Bool := !d || (decide (kb = 6) || decide (2 ≤ kb ∧ kb ≤ 4) || decide (7 ≤ kb ∧ kb ≤ 12))
theorem cio_rule : ∀ (ka kb : Fin 13) (q d : Bool), 2 ≤ ka.val → 2 ≤ kb.val → needD kb.val d = true → ∀ c : Fin 8, 1 ≤ c.val → (cioF ka.val kb.val q d c.val = true ↔ ruleF ka.val kb.val q d = (c.val : Int)) ∨ (ka.val = 4 ∧ kb.val = 4 ∧ q = true ∧ d = true) := by decide +kernel

theorem dup_need (a k l : Int) (n : Nat) (hn : k = n) : needD n (dupV a k l) = true := by
  subst hn
  unfold needD
  by_cases hd : dupV a n l = true
  · have h : ((n : Int) = 6 ∨ (n : Int) = 12) ∨ ((2 ≤ (n : Int) ∧ (n : Int) ≤ 4) ∨ (7 ≤ (n : Int) ∧ (n : Int) ≤ 12)) := by
      unfold dupV lvlV at hd
      simp only [Bool.and_eq_true, Bool.or_eq_true, decide_eq_true_eq] at hd
      rcases hd.2.2 with h | h
      · exact Or.inl h
      · exact Or.inr h.1
    simp only [Bool.or_eq_true, decide_eq_true_eq]
    omega
  · simp [hd]

theorem dup_lt (a k l : Int) (hk : k = 4) (h : dupV a k l = true) : a < l := by
  subst hk
  unfold dupV lvlV at h
  simp at h
  exact h.2.2

theorem lit_eq (a : Nat) (n : Nat) : ((a : Int) = (n : Int)) = (a = n) := propext Int.ofNat_inj
theorem rule_ruleF (ka kb : Nat) (la lb : Int) : ruleV ka la kb lb = ruleF ka kb (decide (la = lb)) (dupV la kb lb) := by
  unfold ruleV ruleF consV
  simp only [decide_eq_true_eq, show ((ka : Int) = 5) = (ka = 5) from lit_eq ka 5, show ((ka : Int) = 4) = (ka = 4) from lit_eq ka 4, show ((ka : Int) = 2) = (ka = 2) from lit_eq ka 2, show ((ka : Int) = 6) = (ka = 6) from lit_eq ka 6, show ((ka : Int) = 9) = (ka = 9) from lit_eq ka 9, show ((ka : Int) = 12) = (ka = 12) from lit_eq ka 12,
    show ((kb : Int) = 4) = (kb = 4) from lit_eq kb 4, show ((kb : Int) = 3) = (kb = 3) from lit_eq kb 3, show ((kb : Int) = 7) = (kb = 7) from lit_eq kb 7, show ((kb : Int) = 8) = (kb = 8) from lit_eq kb 8, show ((kb : Int) = 10) = (kb = 10) from lit_eq kb 10, show ((kb : Int) = 11) = (kb = 11) from lit_eq kb 11]

/-- Of the classes only the rule's fits. -/
theorem fit_iff (ka la kb lb : Int) (h1 : 2 ≤ ka) (h2 : ka ≤ 12) (h3 : 2 ≤ kb) (h4 : kb ≤ 12) (c : Nat) (c1 : 1 ≤ c) (c2 : c ≤ 7) : fitV ka la kb lb c = true ↔ ruleV ka la kb lb = c := by
  obtain ⟨m, rfl⟩ : ∃ m : Nat, ka = m := ⟨ka.toNat, by omega⟩
  obtain ⟨n, rfl⟩ : ∃ n : Nat, kb = n := ⟨kb.toNat, by omega⟩
  rw [rule_ruleF]
  have e : fitV m la n lb c = cioF m n (decide (la = lb)) (dupV la n lb) c := by
    unfold fitV cioF lfV
    rw [Int.toNat_natCast]
    congr 1
    by_cases a1 : c = 1
    · simp [a1]
    · by_cases a2 : c = 2
      · simp [a2]
      · by_cases a3 : c = 3
        · simp [a3]
        · rw [if_neg (by omega), if_neg (by omega), if_neg (by omega), if_neg (by omega)]
  rw [e]
  rcases cio_rule ⟨m, by omega⟩ ⟨n, by omega⟩ (decide (la = lb)) (dupV la n lb) (by simp only; omega) (by simp only; omega) (dup_need _ _ _ n rfl) ⟨c, by omega⟩ c1 with h | ⟨-, h, hq, hd⟩
  · exact h
  · exfalso
    have := dup_lt la n lb (by simp only at h; omega) hd
    simp only [decide_eq_true_eq] at hq
    omega

theorem rule_range (ka la kb lb : Int) : 0 ≤ ruleV ka la kb lb ∧ ruleV ka la kb lb ≤ 7 := by
  unfold ruleV
  repeat' split
  all_goals omega

theorem rule_none (ka la kb lb : Int) (h1 : 2 ≤ ka) (h2 : ka ≤ 12) (h3 : 2 ≤ kb) (h4 : kb ≤ 12) (h : ∀ c : Nat, 1 ≤ c → c ≤ 7 → fitV ka la kb lb c = false) : ruleV ka la kb lb = 0 := by
  have hr := rule_range ka la kb lb
  by_cases h0 : ruleV ka la kb lb = 0
  · exact h0
  · exfalso
    have := (fit_iff ka la kb lb h1 h2 h3 h4 (ruleV ka la kb lb).toNat (by omega) (by omega)).2 (by omega)
    rw [h _ (by omega) (by omega)] at this
    cases this

theorem okP_in (k l : Int) : okPV k l = (inV k 2 12 && allowV k l) := by
  unfold okPV
  by_cases h : inV k 2 12 = true
  · have : (k == 1) = false := by unfold inV at h; simp at h; simp; omega
    rw [h, this]; simp
  · have hf : inV k 2 12 = false := by simpa using h
    rw [hf]
    simp only [inV, decide_eq_false_iff_not] at hf
    by_cases k1 : k = 1
    · subst k1; simp
    · have : allowV k l = false := by
        unfold allowV
        have a : lvlV k = false := by unfold lvlV; apply decide_eq_false; omega
        have b : inV k 1 12 = false := by unfold inV; apply decide_eq_false; omega
        rw [a, b]; simp
      rw [this]; rfl

/-- By how many agents an interaction changes a net. -/
def growL : List (List Int) := [[0, 0, 0], [0, 0, -2], [0, 0, -2], [0, 3, 0], [0, 3, -2], [0, 0, -1], [0, 3, -1], [2, 600, -2]]
def growV (c p : Int) : Option Int :=
  if c = 1 ∨ c = 2 then (if p = 0 then some (-2) else none) else if c = 3 then (if inV p 0 3 = true then some p else none) else if c = 4 then (if inV p 0 3 = true then some (p - 2) else none)
  else if c = 5 then (if p = 0 then some (-1) else none) else if c = 6 then (if inV p 0 3 = true then some (p - 1) else none) else if c = 7 then (if inV p 2 600 = true then some (p - 2) else none) else none

theorem arrtab_cell {P : Program} {W : World} {name : String} {g t e e2 n m : Nat} {k : IntKind} (hG : P.globalNamed name = some g) (hT : (P.globals[g]?).map (·.type) = some t)
    (hU : P.underlying t = some (.array n e)) (hE : P.underlying e = some (.array m e2)) (hE2 : P.underlying e2 = some (.int k)) (hC2 : P.cellsOf e2 = 1) (hC : P.cellsOf e = m) (L : List (List Int))
    (h : laidMet P [(name, .agg (L.map fun r => .agg (r.map fun x => .lit (.int k x))))] W) :
    g < W.heap.size ∧ ∀ i j v, (L.getD i [])[j]? = some v → W.cell? ⟨g, i * m + j, none⟩ = some (.int k v) := by
  obtain ⟨ps, ⟨g', t', cs, fuel, p, q, hg, ht, hv, hd, _, _⟩, _, _⟩ := h
  obtain rfl := Option.some.inj (hG.symm.trans hg)
  obtain rfl := Option.some.inj (hT.symm.trans ht)
  obtain ⟨xs, mm, _, ex, _, hl, hel⟩ := DataW.trod_array hU hd
  refine ⟨?_, fun i j v hij => ?_⟩
  · unfold World.var? at hv
    rw [hg] at hv
    simp only [Option.bind_some] at hv
    cases hh : W.heap[g]? with
    | none => rw [hh] at hv; cases hv
    | some o => exact (Array.getElem?_eq_some_iff.1 hh).1
  have e3 : (xs.map (·.1)) = L.map fun r => .agg (r.map fun x => .lit (.int k x)) := (DataW.agg.inj (Prod.mk.inj ex).1).symm
  have hLx : xs.length = L.length := by have := congrArg List.length e3; simpa using this
  have hi' : i < L.length := by
    rcases Nat.lt_or_ge i L.length with h | h
    · exact h
    · rw [List.getD, List.getElem?_eq_none h] at hij; simp at hij
  have hLi : L.getD i [] = L[i] := by rw [List.getD, List.getElem?_eq_getElem hi']; rfl
  rw [hLi] at hij
  have hi : i < n := by omega
  have hx := hel i hi
  rw [hC, List.getElem?_eq_getElem (by omega)] at hx
  have e4 : (xs.map (·.1))[i]? = (L.map fun r => (DataW.agg (r.map fun x => .lit (.int k x)) : DataW Unit))[i]? := by rw [e3]
  rw [List.getElem?_map, List.getElem?_map, List.getElem?_eq_getElem (by omega : i < xs.length), List.getElem?_eq_getElem hi'] at e4
  simp only [Option.map_some, Option.some.injEq] at e4
  obtain ⟨ys, m2, _, ey, _, hly2, hfy⟩ := DataW.trod_array hE hx
  rw [ey] at e4
  have e5 := DataW.agg.inj e4
  have hlen : ys.length = L[i].length := by have := congrArg List.length e5; simpa using this
  have hj : j < L[i].length := (List.getElem?_eq_some_iff.1 hij).1
  have g0 := hfy j (by omega)
  rw [hC2, Nat.mul_one, List.getElem?_eq_getElem (by omega)] at g0
  obtain ⟨v0, a0, b0, _⟩ := DataW.trod_int hE2 g0
  have e6 : (ys.map (·.1))[j]? = (L[i].map fun x => (DataW.lit (.int k x) : DataW Unit))[j]? := by rw [e5]
  rw [List.getElem?_map, List.getElem?_map, List.getElem?_eq_getElem (by omega : j < ys.length), hij, b0] at e6
  simp only [Option.map_some, Option.some.injEq, DataW.lit.injEq, Lit.int.injEq, true_and] at e6
  rw [World.var?_cell hg hv, ← Array.getElem?_toList, cell_atm (by omega) a0, e6]

theorem sntab_cell {P : Program} {W : World} {name : String} {g t e n es ei : Nat} {f0 f1 : Field} (hG : P.globalNamed name = some g) (hT : (P.globals[g]?).map (·.type) = some t)
    (hU : P.underlying t = some (.array n e)) (hE : P.underlying e = some (.struct #[f0, f1])) (t0 : f0.type = es) (t1 : f1.type = ei) (o0 : f0.offset = 0) (o1 : f1.offset = 1)
    (us : P.underlying es = some .string) (ui : P.underlying ei = some (.int .i64)) (ks : P.cellsOf es = 1) (ki : P.cellsOf ei = 1) (hC : P.cellsOf e = 2) (L : List (List UInt8 × Int))
    (h : laidMet P [(name, .agg (L.map fun r => .agg [.lit (.string r.1), .lit (.int .i64 r.2)]))] W) :
    g < W.heap.size ∧ ∀ i r, L[i]? = some r → W.cell? ⟨g, i * 2 + 0, none⟩ = some (.string ⟨r.1.toArray⟩) ∧ W.cell? ⟨g, i * 2 + 1, none⟩ = some (.int .i64 r.2) := by
  obtain ⟨ps, ⟨g', t', cs, fuel, p, q, hg, ht, hv, hd, _, _⟩, _, _⟩ := h
  obtain rfl := Option.some.inj (hG.symm.trans hg)
  obtain rfl := Option.some.inj (hT.symm.trans ht)
  obtain ⟨xs, mm, _, ex, _, hl, hel⟩ := DataW.trod_array hU hd
  refine ⟨?_, fun i r hij => ?_⟩
  · unfold World.var? at hv
    rw [hg] at hv
    simp only [Option.bind_some] at hv
    cases hh : W.heap[g]? with
    | none => rw [hh] at hv; cases hv
    | some o => exact (Array.getElem?_eq_some_iff.1 hh).1
  have e3 : (xs.map (·.1)) = L.map fun r => .agg [.lit (.string r.1), .lit (.int .i64 r.2)] := (DataW.agg.inj (Prod.mk.inj ex).1).symm
  have hLx : xs.length = L.length := by have := congrArg List.length e3; simpa using this
  have hi' : i < L.length := (List.getElem?_eq_some_iff.1 hij).1
  have hi : i < n := by omega
  have hx := hel i hi
  rw [hC, List.getElem?_eq_getElem (by omega)] at hx
  have e4 : (xs.map (·.1))[i]? = (L.map fun r => (DataW.agg [.lit (.string r.1), .lit (.int .i64 r.2)] : DataW Unit))[i]? := by rw [e3]
  rw [List.getElem?_map, List.getElem?_map, List.getElem?_eq_getElem (by omega : i < xs.length), hij] at e4
  simp only [Option.map_some, Option.some.injEq] at e4
  obtain ⟨ys, m2, _, ey, hly, hly2, hfy⟩ := DataW.trod_struct hE hx
  match ys, hly2 with
  | [y0, y1], _ =>
  have g0 := hfy 0 f0 rfl
  have g1 := hfy 1 f1 rfl
  rw [t0, o0, ks] at g0
  rw [t1, o1, ki] at g1
  simp only [List.getElem?_cons_zero, List.getElem?_cons_succ] at g0 g1
  obtain ⟨v0, a0, b0, _⟩ := DataW.trod_string us g0
  obtain ⟨v1, a1, b1, _⟩ := DataW.trod_int ui g1
  rw [ey] at e4
  subst b0 b1
  have e5 := DataW.agg.inj e4
  simp only [List.map_cons, List.map_nil, List.cons.injEq, DataW.lit.injEq, Lit.int.injEq, Lit.string.injEq, true_and, and_true] at e5
  obtain ⟨c0, c1⟩ := e5
  have hs : v0 = ⟨r.1.toArray⟩ := by
    cases v0
    simp only at c0
    simp [← c0]
  refine ⟨?_, ?_⟩
  · rw [World.var?_cell hg hv, ← Array.getElem?_toList, cell_atm (by decide) a0, hs]
  · rw [World.var?_cell hg hv, ← Array.getElem?_toList, cell_atm (by decide) a1, c1]

end Go.Proofs.YtgobiejokgcmmaaDoor.Con
