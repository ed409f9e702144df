/-
  When a term is valid, as functions on terms without addresses. No program in it, no condition.
-/
import Derived.Test.YtkfplnnncfkjfaaDoorTm
import Derived.Test.YtkfplnnncfkjfaaDoorDaVal
namespace Go.Proofs.YtkfplnnncfkjfaaDoor.Con
open Go.RowKit
set_option linter.unusedVariables false

def Tm.k : Tm → Int | .mk k _ _ _ _ _ => k
def Tm.m : Tm → Int | .mk _ m _ _ _ _ => m
def Tm.n : Tm → ByteArray | .mk _ _ n _ _ _ => n
def Tm.t : Tm → Ty | .mk _ _ _ t _ _ => t
def Tm.ns : Tm → List ByteArray | .mk _ _ _ _ ns _ => ns
def Tm.ks : Tm → List Tm | .mk _ _ _ _ _ ks => ks

def noTy : Ty → Bool | .mk k n ks => (k == 0) && (n.toList.isEmpty && decide (ks.length = 0))
def inI (x lo hi : Int) : Bool := decide (lo ≤ x) && decide (x ≤ hi)
def nameM (k : Int) (n : ByteArray) : Bool := if k = 1 ∨ k = 4 ∨ k = 7 then lowerB n else if k = 8 ∨ k = 10 then upperB n else n.toList.isEmpty
def typeM (k : Int) (t : Ty) : Bool := if k = 4 then validB t else noTy t
def dsB (ns : List ByteArray) (i : Nat) : Bool := lowerB (ns.getD i ⟨#[]⟩) && !hasB (ns.take i) (ns.getD i ⟨#[]⟩)
def distB (ns : List ByteArray) : Bool := (List.range ns.length).all (dsB ns)
def namesM (k : Int) (ns : List ByteArray) : Bool := if k = 10 then decide (ns.length ≤ 3) && distB ns else decide (ns.length = 0)
def numM (k m : Int) : Bool := if k = 2 then inI m (-2147483648) 2147483647 else if k = 3 then inI m 1 6 else inI m 0 0
def fldM (k m : Int) (n : ByteArray) (t : Ty) (ns : List ByteArray) : Bool := nameM k n && (typeM k t && (namesM k ns && numM k m))
def kidsLo (k : Int) : Int := if k = 4 ∨ k = 6 ∨ k = 10 then 1 else if k = 3 ∨ k = 5 ∨ k = 7 ∨ k = 9 then 2 else if k = 11 then 3 else 0
def kidsHi (k : Int) : Int := if k = 1 ∨ k = 2 then 0 else if k = 4 ∨ k = 6 ∨ k = 10 then 1 else if k = 3 ∨ k = 5 ∨ k = 7 then 2 else if k = 8 ∨ k = 11 then 3 else if k = 9 then 5 else -1
/-- The node of a term fits its kind, but for its kids' own. -/
def headM (k m : Int) (n : ByteArray) (t : Ty) (ns : List ByteArray) (l : Nat) : Bool := inI l (kidsLo k) (kidsHi k) && fldM k m n t ns

theorem distB_bad {ns : List ByteArray} {i : Nat} (hi : i < ns.length) (h : dsB ns i = false) : distB ns = false := by
  unfold distB
  exact List.all_eq_false.2 ⟨i, by simpa using hi, by rw [h]; simp⟩
theorem distB_all {ns : List ByteArray} (h : ∀ i, i < ns.length → dsB ns i = true) : distB ns = true := by
  unfold distB
  exact List.all_eq_true.2 fun i hi => h i (by simpa using hi)
theorem dsB_eq {ns : List ByteArray} {i : Nat} (hi : i < ns.length) : dsB ns i = (lowerB ns[i] && !hasB (ns.take i) ns[i]) := by
  unfold dsB
  rw [List.getD, List.getElem?_eq_getElem hi]; rfl

/-- How many nodes a term has, and how deep it is. -/
def Tm.nn : Tm → Nat
  | .mk _ _ _ _ _ ks => 1 + nns ks
where nns : List Tm → Nat
  | [] => 0
  | t :: ts => t.nn + nns ts
def Tm.dp : Tm → Nat
  | .mk _ _ _ _ _ ks => 1 + dps ks
where dps : List Tm → Nat
  | [] => 0
  | t :: ts => max t.dp (dps ts)
/-- All nodes fit their kinds; c says whether it stands where a case stands. -/
def Tm.ok : Tm → Bool → Bool
  | .mk k m n t ns ks, c => ((k == 10) == c) && (headM k m n t ns ks.length && oks false (k == 9) ks)
where oks (f c : Bool) : List Tm → Bool
  | [] => true
  | t :: ts => t.ok f && oks c c ts

abbrev nns (ks : List Tm) : Nat := Tm.nn.nns ks
abbrev dps (ks : List Tm) : Nat := Tm.dp.dps ks

theorem nn_eq (t : Tm) : t.nn = 1 + nns t.ks := by cases t; rw [Tm.nn]; rfl
theorem dp_eq (t : Tm) : t.dp = 1 + dps t.ks := by cases t; rw [Tm.dp]; rfl
theorem ok_eq (t : Tm) (c : Bool) : t.ok c = (((t.k == 10) == c) && (headM t.k t.m t.n t.t t.ns t.ks.length && Tm.ok.oks false (t.k == 9) t.ks)) := by cases t; rw [Tm.ok]; rfl
theorem nn_pos (t : Tm) : 1 ≤ t.nn := by rw [nn_eq]; omega
theorem dp_pos (t : Tm) : 1 ≤ t.dp := by rw [dp_eq]; omega

theorem nns_take (ks : List Tm) (i : Nat) (hi : i < ks.length) : nns (ks.take (i + 1)) = nns (ks.take i) + ks[i].nn := by
  induction ks generalizing i with
  | nil => simp at hi
  | cons t ts ih =>
    cases i with
    | zero => simp [nns, Tm.nn.nns]
    | succ i => simp only [List.take_succ_cons, nns, Tm.nn.nns, List.getElem_cons_succ]; have := ih i (by simpa using hi); simp only [nns] at this; omega
theorem nns_take_le (ks : List Tm) (i : Nat) : nns (ks.take i) ≤ nns ks := by
  induction ks generalizing i with
  | nil => simp
  | cons t ts ih =>
    cases i with
    | zero => simp [nns, Tm.nn.nns]
    | succ i => simp only [List.take_succ_cons, nns, Tm.nn.nns]; have := ih i; simp only [nns] at this; omega
theorem dps_ge {ks : List Tm} {t : Tm} (h : t ∈ ks) : t.dp ≤ dps ks := by
  induction ks with
  | nil => cases h
  | cons u us ih =>
    simp only [dps, Tm.dp.dps]
    rcases List.mem_cons.1 h with rfl | h
    · omega
    · have := ih h; simp only [dps] at this; omega
theorem dps_le {ks : List Tm} {d : Nat} (h : ∀ t ∈ ks, t.dp ≤ d) : dps ks ≤ d := by
  induction ks with
  | nil => simp [dps, Tm.dp.dps]
  | cons u us ih =>
    simp only [dps, Tm.dp.dps]
    have h1 := h u (by simp)
    have h2 := ih fun t ht => h t (by simp [ht])
    simp only [dps] at h2
    omega
/-- Where a kid stands. -/
def flg (k : Int) (i : Nat) : Bool := (k == 9) && decide (0 < i)
theorem oks_all (c : Bool) : ∀ (ks : List Tm), Tm.ok.oks c c ks = true ↔ ∀ t ∈ ks, t.ok c = true
  | [] => by simp [Tm.ok.oks]
  | t :: ts => by simp [Tm.ok.oks, oks_all c ts]
theorem oks_iff (k : Int) (ks : List Tm) : Tm.ok.oks false (k == 9) ks = true ↔ ∀ i (hi : i < ks.length), ks[i].ok (flg k i) = true := by
  cases ks with
  | nil => simp [Tm.ok.oks]
  | cons t ts =>
    simp only [Tm.ok.oks, Bool.and_eq_true, oks_all]
    constructor
    · rintro ⟨h1, h2⟩ i hi
      cases i with
      | zero => simpa [flg] using h1
      | succ i => simpa [flg] using h2 _ (List.getElem_mem (by simpa using hi))
    · intro h
      refine ⟨by have := h 0 (by simp); rw [show flg k 0 = false from by simp [flg]] at this; exact this, fun u hu => ?_⟩
      obtain ⟨i, hi, rfl⟩ := List.mem_iff_getElem.1 hu
      have := h (i + 1) (by simpa using hi)
      rw [show flg k (i + 1) = (k == 9) from by simp [flg]] at this
      exact this

/-- Good below depth d with at most l nodes. -/
def goodM (t : Tm) (c : Bool) (d l : Nat) : Prop := t.ok c = true ∧ t.dp ≤ d ∧ t.nn ≤ l
instance (t : Tm) (c : Bool) (d l : Nat) : Decidable (goodM t c d l) := by unfold goodM; infer_instance
def ndM (t : Tm) (c : Bool) (d l : Nat) : Int := if goodM t c d l then t.nn else -1
def okT (t : Tm) : Bool := decide (goodM t false 24 160)
def szT (t : Tm) : Int := if okT t = true then t.nn else 0

theorem good_head {t : Tm} {c : Bool} {d l : Nat} (h : goodM t c d l) : ((t.k == 10) == c) = true ∧ headM t.k t.m t.n t.t t.ns t.ks.length = true ∧ 1 ≤ d ∧ 1 ≤ l := by
  obtain ⟨h1, h2, h3⟩ := h
  rw [ok_eq, Bool.and_eq_true, Bool.and_eq_true] at h1
  exact ⟨h1.1, h1.2.1, by have := dp_pos t; omega, by have := nn_pos t; omega⟩
theorem ndM_no1 {t : Tm} {c : Bool} {d l : Nat} (h : ((t.k == 10) == c) = false) : ¬ goodM t c d l := fun g => by have := (good_head g).1; rw [h] at this; cases this
theorem ndM_no2 {t : Tm} {c : Bool} {d l : Nat} (h : headM t.k t.m t.n t.t t.ns t.ks.length = false) : ¬ goodM t c d l := fun g => by have := (good_head g).2.1; rw [h] at this; cases this
theorem ndM_no3 {t : Tm} {c : Bool} {d l : Nat} (h : d < 1 ∨ l < 1) : ¬ goodM t c d l := fun g => by have := (good_head g).2.2; omega
/-- A kid that is not good, where those before it are counted. -/
theorem good_kid {t : Tm} {c : Bool} {d l : Nat} (g : goodM t c d l) (i : Nat) (hi : i < t.ks.length) : goodM t.ks[i] (flg t.k i) (d - 1) (l - (1 + nns (t.ks.take i))) := by
  obtain ⟨h1, h2, h3⟩ := g
  rw [ok_eq, Bool.and_eq_true, Bool.and_eq_true] at h1
  refine ⟨(oks_iff _ _).1 h1.2.2 i hi, ?_, ?_⟩
  · have := dps_ge (List.getElem_mem hi)
    rw [dp_eq] at h2
    omega
  · have e1 := nns_take t.ks i hi
    have e2 := nns_take_le t.ks (i + 1)
    rw [nn_eq] at h3
    omega
theorem good_all {t : Tm} {c : Bool} {d l : Nat} (h0 : ((t.k == 10) == c) = true) (h1 : headM t.k t.m t.n t.t t.ns t.ks.length = true) (hd : 1 ≤ d) (hl : 1 + nns t.ks ≤ l) (h : ∀ i (hi : i < t.ks.length), t.ks[i].ok (flg t.k i) = true ∧ t.ks[i].dp ≤ d - 1) : goodM t c d l := by
  refine ⟨?_, ?_, by rw [nn_eq]; exact hl⟩
  · rw [ok_eq, h0, h1, Bool.true_and, Bool.true_and]
    exact (oks_iff _ _).2 fun i hi => (h i hi).1
  · rw [dp_eq]
    have : dps t.ks ≤ d - 1 := dps_le fun u hu => by
      obtain ⟨i, hi, rfl⟩ := List.mem_iff_getElem.1 hu
      exact (h i hi).2
    omega

theorem LM.tm_k (u : LM) : u.tm.k = u.k := by rw [LM.tm_eq]; rfl
theorem LM.tm_m (u : LM) : u.tm.m = u.m := by rw [LM.tm_eq]; rfl
theorem LM.tm_n (u : LM) : u.tm.n = u.n := by rw [LM.tm_eq]; rfl
theorem LM.tm_t (u : LM) : u.tm.t = u.t.ty := by rw [LM.tm_eq]; rfl
theorem LM.tm_ns (u : LM) : u.tm.ns = u.ns := by rw [LM.tm_eq]; rfl
theorem LM.tm_ks (u : LM) : u.tm.ks = u.ks.map LM.tm := by rw [LM.tm_eq]; rfl
theorem LM.tm_len (u : LM) : u.tm.ks.length = u.ks.length := by rw [LM.tm_ks]; simp
theorem LM.tm_kid (u : LM) (i : Nat) (hi : i < u.ks.length) : u.tm.ks[i]'(by rw [u.tm_len]; exact hi) = u.ks[i].tm := by simp [LM.tm_ks]
theorem noTy_eq (t : LT) : noTy t.ty = ((t.k == 0) && (t.n.toList.isEmpty && decide (t.ks.length = 0))) := by
  rw [LT.ty_eq, noTy]; simp

end Go.Proofs.YtkfplnnncfkjfaaDoor.Con
