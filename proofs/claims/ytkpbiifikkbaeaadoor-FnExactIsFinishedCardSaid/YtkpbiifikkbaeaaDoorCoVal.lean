/-
  When a core term is valid, as functions on core terms without addresses. No program in it, no condition.
-/
import Derived.Test.YtkpbiifikkbaeaaDoorCo
namespace Go.Proofs.YtkpbiifikkbaeaaDoor.Con
open Go.RowKit
set_option linter.unusedVariables false

def coLo (k : Int) : Int := if k = 3 ∨ k = 5 ∨ k = 7 then 2 else if k = 4 ∨ k = 6 ∨ k = 9 ∨ k = 10 then 1 else 0
def coHi (k : Int) : Int := if k = 1 ∨ k = 2 ∨ k = 11 then 0 else if k = 3 ∨ k = 5 ∨ k = 7 then 2 else if k = 4 ∨ k = 6 ∨ k = 9 ∨ k = 10 then 1 else if k = 8 then 3 else -1
def cdLo (k : Int) : Int := if k = 9 then 1 else if k = 10 then 2 else 0
def cdHi (k : Int) : Int := if k = 9 then 4 else if k = 10 then 2 else 0
def coV (k v : Int) : Bool := if k = 1 then inV v 0 255 else if k = 2 then inV v (-2147483648) 2147483647 else if k = 3 then inV v 1 6 else if k = 8 then inV v 0 3 else if k = 11 then inV v 0 23 else v == 0
def coD (ds : List Int) (n : Int) : Bool := ds.all fun d => inV d 0 (n - 1)
/-- The node of a core term fits its kind, but for its kids' own. -/
def headC (k v : Int) (ds : List Int) (l : Nat) : Bool := inV l (coLo k) (coHi k) && (inV ds.length (cdLo k) (cdHi k) && (coV k v && coD ds 24))

theorem coD_bad {ds : List Int} {n : Int} (i : Nat) (hi : i < ds.length) (h : inV ds[i] 0 (n - 1) = false) : coD ds n = false :=
  List.all_eq_false.2 ⟨ds[i], List.getElem_mem hi, by rw [h]; simp⟩
theorem coD_all {ds : List Int} {n : Int} (h : ∀ i (hi : i < ds.length), inV ds[i] 0 (n - 1) = true) : coD ds n = true :=
  List.all_eq_true.2 fun d hd => by
    obtain ⟨i, hi, rfl⟩ := List.mem_iff_getElem.1 hd
    exact h i hi
theorem headC_kind {k v : Int} {ds : List Int} {l : Nat} (h : headC k v ds l = true) : 1 ≤ k ∧ k ≤ 11 := by
  unfold headC at h
  have h1 : inV l (coLo k) (coHi k) = true := by
    cases hb : inV l (coLo k) (coHi k) with
    | true => rfl
    | false => rw [hb] at h; cases h
  unfold inV at h1
  simp only [decide_eq_true_eq] at h1
  have h2 : 0 ≤ coHi k := by omega
  unfold coHi at h2
  split at h2
  · omega
  split at h2
  · omega
  split at h2
  · omega
  split at h2
  · omega
  · omega

/-- How many nodes a core term has, and how deep it is. -/
def Co.nn : Co → Nat
  | .mk _ _ _ ks => 1 + nns ks
where nns : List Co → Nat
  | [] => 0
  | t :: ts => t.nn + nns ts
def Co.dp : Co → Nat
  | .mk _ _ _ ks => 1 + dps ks
where dps : List Co → Nat
  | [] => 0
  | t :: ts => max t.dp (dps ts)
/-- All nodes meet a condition. -/
def Co.all (H : Int → Int → List Int → Nat → Bool) : Co → Bool
  | .mk k v ds ks => H k v ds ks.length && alls ks
where alls : List Co → Bool
  | [] => true
  | t :: ts => t.all H && alls ts
abbrev cnns (ks : List Co) : Nat := Co.nn.nns ks
abbrev cdps (ks : List Co) : Nat := Co.dp.dps ks
theorem Co.nn_eq (t : Co) : t.nn = 1 + cnns t.ks := by cases t; rw [Co.nn]; rfl
theorem Co.dp_eq (t : Co) : t.dp = 1 + cdps t.ks := by cases t; rw [Co.dp]; rfl
theorem Co.all_eq (H : Int → Int → List Int → Nat → Bool) (t : Co) : t.all H = (H t.k t.v t.ds t.ks.length && Co.all.alls H t.ks) := by cases t; rw [Co.all]; rfl
theorem Co.nn_pos (t : Co) : 1 ≤ t.nn := by rw [Co.nn_eq]; omega
theorem Co.dp_pos (t : Co) : 1 ≤ t.dp := by rw [Co.dp_eq]; omega
theorem cnns_take (ks : List Co) (i : Nat) (hi : i < ks.length) : cnns (ks.take (i + 1)) = cnns (ks.take i) + ks[i].nn := by
  induction ks generalizing i with
  | nil => simp at hi
  | cons t ts ih =>
    cases i with
    | zero => simp [cnns, Co.nn.nns]
    | succ i => simp only [List.take_succ_cons, cnns, Co.nn.nns, List.getElem_cons_succ]; have := ih i (by simpa using hi); simp only [cnns] at this; omega
theorem cnns_take_le (ks : List Co) (i : Nat) : cnns (ks.take i) ≤ cnns ks := by
  induction ks generalizing i with
  | nil => simp
  | cons t ts ih =>
    cases i with
    | zero => simp [cnns, Co.nn.nns]
    | succ i => simp only [List.take_succ_cons, cnns, Co.nn.nns]; have := ih i; simp only [cnns] at this; omega
theorem cnns_mem {ks : List Co} {t : Co} (h : t ∈ ks) : t.nn ≤ cnns ks := by
  induction ks with
  | nil => cases h
  | cons u us ih =>
    simp only [cnns, Co.nn.nns]
    rcases List.mem_cons.1 h with rfl | h
    · omega
    · have := ih h; simp only [cnns] at this; omega
theorem cdps_ge {ks : List Co} {t : Co} (h : t ∈ ks) : t.dp ≤ cdps ks := by
  induction ks with
  | nil => cases h
  | cons u us ih =>
    simp only [cdps, Co.dp.dps]
    rcases List.mem_cons.1 h with rfl | h
    · omega
    · have := ih h; simp only [cdps] at this; omega
theorem cdps_le {ks : List Co} {d : Nat} (h : ∀ t ∈ ks, t.dp ≤ d) : cdps ks ≤ d := by
  induction ks with
  | nil => simp [cdps, Co.dp.dps]
  | cons u us ih =>
    simp only [cdps, Co.dp.dps]
    have h1 := h u (by simp)
    have h2 := ih fun t ht => h t (by simp [ht])
    simp only [cdps] at h2
    omega
theorem calls_iff (H : Int → Int → List Int → Nat → Bool) : ∀ (ks : List Co), Co.all.alls H ks = true ↔ ∀ t ∈ ks, t.all H = true
  | [] => by simp [Co.all.alls]
  | t :: ts => by simp [Co.all.alls, calls_iff H ts]

/-- Good below depth d with at most l nodes. -/
def goodC (H : Int → Int → List Int → Nat → Bool) (t : Co) (d l : Nat) : Prop := t.all H = true ∧ t.dp ≤ d ∧ t.nn ≤ l
instance (H : Int → Int → List Int → Nat → Bool) (t : Co) (d l : Nat) : Decidable (goodC H t d l) := by unfold goodC; infer_instance
def ndC (H : Int → Int → List Int → Nat → Bool) (t : Co) (d l : Nat) : Int := if goodC H t d l then t.nn else -1
def anyH (_ _ : Int) (_ : List Int) (_ : Nat) : Bool := true
def okC (t : Co) : Bool := decide (goodC headC t 80 400)
def szC (t : Co) : Int := if okC t = true then t.nn else 0

theorem ndC_no {H : Int → Int → List Int → Nat → Bool} {t : Co} {d l : Nat} (h : ¬ goodC H t d l) : ndC H t d l = -1 := if_neg h
theorem ndC_yes {H : Int → Int → List Int → Nat → Bool} {t : Co} {d l : Nat} (h : goodC H t d l) : ndC H t d l = t.nn := if_pos h
theorem szC_no {t : Co} (h : okC t = false) : szC t = 0 := by unfold szC; rw [h]; rfl
theorem szC_yes {t : Co} (h : okC t = true) : szC t = t.nn := by unfold szC; rw [h]; rfl
theorem okC_good {t : Co} (h : okC t = true) : goodC headC t 80 400 := of_decide_eq_true h

section
variable {H : Int → Int → List Int → Nat → Bool}
theorem goodC_head {t : Co} {d l : Nat} (h : goodC H t d l) : H t.k t.v t.ds t.ks.length = true ∧ 1 ≤ d ∧ 1 ≤ l := by
  obtain ⟨h1, h2, h3⟩ := h
  rw [Co.all_eq, Bool.and_eq_true] at h1
  exact ⟨h1.1, by have := t.dp_pos; omega, by have := t.nn_pos; omega⟩
theorem goodC_kid {t : Co} {d l : Nat} (g : goodC H t d l) (i : Nat) (hi : i < t.ks.length) : goodC H t.ks[i] (d - 1) (l - (1 + cnns (t.ks.take i))) := by
  obtain ⟨h1, h2, h3⟩ := g
  rw [Co.all_eq, Bool.and_eq_true] at h1
  refine ⟨(calls_iff _ _).1 h1.2 _ (List.getElem_mem hi), ?_, ?_⟩
  · have := cdps_ge (List.getElem_mem hi)
    rw [Co.dp_eq] at h2
    omega
  · have e1 := cnns_take t.ks i hi
    have e2 := cnns_take_le t.ks (i + 1)
    rw [Co.nn_eq] at h3
    omega
theorem goodC_all {t : Co} {d l : Nat} (h1 : H t.k t.v t.ds t.ks.length = true) (hd : 1 ≤ d) (hl : 1 + cnns t.ks ≤ l) (h : ∀ i (hi : i < t.ks.length), t.ks[i].all H = true ∧ t.ks[i].dp ≤ d - 1) : goodC H t d l := by
  refine ⟨?_, ?_, by rw [Co.nn_eq]; exact hl⟩
  · rw [Co.all_eq, h1, Bool.true_and, calls_iff]
    intro u hu
    obtain ⟨i, hi, rfl⟩ := List.mem_iff_getElem.1 hu
    exact (h i hi).1
  · rw [Co.dp_eq]
    have : cdps t.ks ≤ d - 1 := cdps_le fun u hu => by
      obtain ⟨i, hi, rfl⟩ := List.mem_iff_getElem.1 hu
      exact (h i hi).2
    omega

def KKidsOk (H : Int → Int → List Int → Nat → Bool) (u : LK) (d j : Nat) : Prop := ∀ i (hi : i < u.ks.length), i < j → u.ks[i].co.all H = true ∧ u.ks[i].co.dp ≤ d - 1
def knsum (u : LK) (j : Nat) : Nat := 1 + cnns ((u.ks.map LK.co).take j)
theorem knsum_zero (u : LK) : knsum u 0 = 1 := by simp [knsum, cnns, Co.nn.nns]
theorem knsum_succ (u : LK) (j : Nat) (hj : j < u.ks.length) : knsum u (j + 1) = knsum u j + u.ks[j].co.nn := by
  unfold knsum
  rw [cnns_take _ _ (by simpa using hj)]
  simp only [List.getElem_map]
  omega
theorem knsum_all (u : LK) : knsum u u.ks.length = u.co.nn := by
  unfold knsum
  rw [Co.nn_eq, LK.co_ks, List.take_of_length_le (by simp)]
theorem kkid_no {u : LK} {d l j : Nat} (hj : j < u.ks.length) (h : ¬ goodC H u.ks[j].co (d - 1) (l - knsum u j)) : ¬ goodC H u.co d l := fun g => h (by
  have := goodC_kid g j (by rw [u.co_len]; exact hj)
  rw [u.co_kid j hj] at this
  simp only [LK.co_ks] at this
  exact this)
theorem kkid_all {u : LK} {d l : Nat} (h1 : H u.k u.v u.ds u.ks.length = true) (hd : 1 ≤ d) (hl : knsum u u.ks.length ≤ l) (h : KKidsOk H u d u.ks.length) : goodC H u.co d l := by
  refine goodC_all (by rw [LK.co_k, LK.co_v, LK.co_ds, LK.co_len]; exact h1) hd ?_ fun i hi => ?_
  · have := knsum_all u
    rw [Co.nn_eq] at this
    omega
  · rw [LK.co_len] at hi
    rw [u.co_kid i hi]
    exact h i hi hi
theorem ndC_no2 {u : LK} {d l : Nat} (h : H u.k u.v u.ds u.ks.length = false) : ¬ goodC H u.co d l := fun g => by
  have := (goodC_head g).1
  rw [LK.co_k, LK.co_v, LK.co_ds, LK.co_len, h] at this; cases this
theorem ndC_no3 {t : Co} {d l : Nat} (h : d < 1 ∨ l < 1) : ¬ goodC H t d l := fun g => by have := (goodC_head g).2; omega
end

end Go.Proofs.YtkpbiifikkbaeaaDoor.Con
