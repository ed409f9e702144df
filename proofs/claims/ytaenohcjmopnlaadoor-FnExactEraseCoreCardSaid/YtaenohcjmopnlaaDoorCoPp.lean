/-
  A core term with one of its variables replaced, as a function on terms without addresses: how large and how deep it is, and when it is valid. No program in it but the model's ranges.
-/
import Derived.Test.YtaenohcjmopnlaaDoorCoSg
import Derived.Test.YtaenohcjmopnlaaDoorCoCn
namespace Go.Proofs.YtaenohcjmopnlaaDoor.Con
open Go.RowKit
set_option linter.unusedVariables false

/-- The variable d replaced by a. -/
def Co.pu : Co → Co → Int → Co
  | .mk k v ds ks, a, d => if k = 1 then (if v = d then a.sh d 0 else .mk 1 (if d < v then v - 1 else v) [] []) else .mk k v ds (pus k 0 ks a d)
where pus (k : Int) : Nat → List Co → Co → Int → List Co
  | _, [], _, _ => []
  | i, t :: ts, a, d => t.pu a (d + bndK k i) :: pus k (i + 1) ts a d
abbrev copus (k : Int) (i : Nat) (ts : List Co) (a : Co) (d : Int) : List Co := Co.pu.pus k i ts a d
theorem pu_eq (t a : Co) (d : Int) : t.pu a d = if t.k = 1 then (if t.v = d then a.sh d 0 else .mk 1 (if d < t.v then t.v - 1 else t.v) [] []) else .mk t.k t.v t.ds (copus t.k 0 t.ks a d) := by
  obtain ⟨k, v, ds, ks⟩ := t
  rw [Co.pu]; rfl
theorem pus_len (k : Int) (a : Co) (d : Int) : ∀ (ts : List Co) (i : Nat), (copus k i ts a d).length = ts.length
  | [], _ => by simp [copus, Co.pu.pus]
  | t :: ts, i => by simp only [copus, Co.pu.pus, List.length_cons]; rw [pus_len k a d ts (i + 1)]
theorem pus_get (k : Int) (a : Co) (d : Int) : ∀ (ts : List Co) (i j : Nat) (hj : j < ts.length), (copus k i ts a d)[j]? = some (ts[j].pu a (d + bndK k (i + j)))
  | t :: ts, i, 0, _ => by simp [copus, Co.pu.pus]
  | t :: ts, i, j + 1, hj => by
    simp only [copus, Co.pu.pus, List.getElem?_cons_succ, List.getElem_cons_succ]
    have := pus_get k a d ts (i + 1) j (by simpa using hj)
    rw [this, show i + 1 + j = i + (j + 1) by omega]

/-- How often the variable d occurs. -/
def Co.cn : Co → Int → Nat
  | .mk k v _ ks, d => if k = 1 then (if v = d then 1 else 0) else cns k 0 ks d
where cns (k : Int) : Nat → List Co → Int → Nat
  | _, [], _ => 0
  | i, t :: ts, d => t.cn (d + bndK k i) + cns k (i + 1) ts d
theorem leaf_of {k v : Int} {ds : List Int} {ks : List Co} (h : headC k v ds ks.length = true) (hk : k = 1) : ks = [] ∧ ds = [] ∧ 0 ≤ v ∧ v ≤ 255 := by
  subst hk
  have := headC_var h
  exact ⟨List.eq_nil_of_length_eq_zero this.1, this.2⟩
mutual
theorem cn_pl : ∀ (t : Co) (x : Int) (bd lv : Nat), t.all headC = true → (t.pl bd lv).countP (isP x) = t.cn (x + bd)
  | .mk k v ds ks, x, bd, lv, h => by
    rw [Co.all, Bool.and_eq_true] at h
    rw [Co.pl, Co.cn, List.countP_cons]
    by_cases hk : k = 1
    · obtain ⟨rfl, rfl, _, _⟩ := leaf_of h.1 hk
      subst hk
      rw [if_pos rfl, Co.pl.pls]
      unfold isP
      by_cases hv : v = x + bd
      · rw [if_pos hv]; simp [hv]
      · rw [if_neg hv]; simp [hv]
    · rw [if_neg hk, cns_pl k 0 ks x bd _ h.2]
      have : isP x ⟨k, v, ds, ks.length, bd, lv⟩ = false := by unfold isP; simp [hk]
      rw [this]; simp
theorem cns_pl (k : Int) : ∀ (i : Nat) (ts : List Co) (x : Int) (bd lv : Nat), Co.all.alls headC ts = true → (Co.pl.pls k bd lv i ts).countP (isP x) = Co.cn.cns k i ts (x + bd)
  | _, [], _, _, _, _ => by rw [Co.pl.pls, Co.cn.cns]; rfl
  | i, t :: ts, x, bd, lv, h => by
    rw [Co.all.alls, Bool.and_eq_true] at h
    rw [Co.pl.pls, Co.cn.cns, List.countP_append, cn_pl t x _ lv h.1, cns_pl k (i + 1) ts x bd lv h.2]
    rw [show x + ((bd + bndK k i : Nat) : Int) = x + bd + bndK k i by omega]
end
theorem cntP_cn {t : Co} (h : t.all headC = true) : cntP t 0 0 0 = t.cn 0 := by
  have := cn_pl t (0 - ((0 : Nat) : Int)) 0 0 h
  unfold cntP
  rw [this]
  rfl

mutual
theorem pu_nn : ∀ (t a : Co) (d : Int), t.all headC = true → (t.pu a d).nn + t.cn d = t.nn + t.cn d * a.nn
  | .mk k v ds ks, a, d, h => by
    rw [Co.all, Bool.and_eq_true] at h
    rw [Co.pu, Co.cn]
    by_cases hk : k = 1
    · obtain ⟨rfl, rfl, _, _⟩ := leaf_of h.1 hk
      rw [if_pos hk, if_pos hk]
      by_cases hv : v = d
      · rw [if_pos hv, if_pos hv, sh_nn]; simp [Co.nn, Co.nn.nns]; omega
      · rw [if_neg hv, if_neg hv]; simp [Co.nn, Co.nn.nns]
    · rw [if_neg hk, if_neg hk, Co.nn, Co.nn]
      have := pus_nn k 0 ks a d h.2
      omega
theorem pus_nn (k : Int) : ∀ (i : Nat) (ts : List Co) (a : Co) (d : Int), Co.all.alls headC ts = true → Co.nn.nns (Co.pu.pus k i ts a d) + Co.cn.cns k i ts d = Co.nn.nns ts + Co.cn.cns k i ts d * a.nn
  | _, [], _, _, _ => by rw [Co.pu.pus, Co.cn.cns]; simp
  | i, t :: ts, a, d, h => by
    rw [Co.all.alls, Bool.and_eq_true] at h
    rw [Co.pu.pus, Co.cn.cns, Co.nn.nns, Co.nn.nns]
    have h1 := pu_nn t a (d + bndK k i) h.1
    have h2 := pus_nn k (i + 1) ts a d h.2
    rw [Nat.add_mul]
    omega
end
mutual
theorem pu_dp : ∀ (t a : Co) (d : Int), (t.pu a d).dp ≤ t.dp + a.dp
  | .mk k v ds ks, a, d => by
    rw [Co.pu]
    by_cases hk : k = 1
    · rw [if_pos hk]
      by_cases hv : v = d
      · rw [if_pos hv, sh_dp]; omega
      · rw [if_neg hv]; simp [Co.dp, Co.dp.dps]; omega
    · rw [if_neg hk, Co.dp, Co.dp]
      have := pus_dp k 0 ks a d
      omega
theorem pus_dp (k : Int) : ∀ (i : Nat) (ts : List Co) (a : Co) (d : Int), Co.dp.dps (Co.pu.pus k i ts a d) ≤ Co.dp.dps ts + a.dp
  | _, [], _, _ => by rw [Co.pu.pus]; simp [Co.dp.dps]
  | i, t :: ts, a, d => by
    rw [Co.pu.pus, Co.dp.dps, Co.dp.dps]
    have h1 := pu_dp t a (d + bndK k i)
    have h2 := pus_dp k (i + 1) ts a d
    omega
end
mutual
theorem pu_good : ∀ (t a : Co) (d : Int), 0 ≤ d → t.all headC = true → a.all headC = true → ((t.pu a d).all headC = true ↔ (t.pu a d).hi ≤ 255)
  | .mk k v ds ks, a, d, hd, h, ha => by
    rw [Co.all, Bool.and_eq_true] at h
    rw [Co.pu]
    by_cases hk : k = 1
    · obtain ⟨rfl, rfl, hv0, hv1⟩ := leaf_of h.1 hk
      rw [if_pos hk]
      by_cases hv : v = d
      · rw [if_pos hv]; exact sh_good a d 0 hd ha
      · rw [if_neg hv]
        obtain ⟨y, hy⟩ : ∃ y, y = (if d < v then v - 1 else v) := ⟨_, rfl⟩
        have hy2 : 0 ≤ y ∧ y ≤ 255 := by rw [hy]; split <;> omega
        rw [← hy]
        have e1 : (Co.mk 1 y [] []).all headC = true := by
          rw [Co.all, Co.all.alls]
          unfold headC inV coV coLo coHi cdLo cdHi coD inV
          simp
          omega
        have e2 : (Co.mk 1 y [] []).hi = y := by rw [Co.hi, if_pos rfl]; rfl
        rw [e1, e2]
        exact ⟨fun _ => hy2.2, fun _ => rfl⟩
    · rw [if_neg hk]
      have e1' : (Co.pu.pus k 0 ks a d).length = ks.length := pus_len k a d ks 0
      rw [Co.all, Bool.and_eq_true, e1', Co.hi, if_neg hk]
      rw [show ∀ m, Co.hi.his (Co.pu.pus k 0 ks a d) m = chis (Co.pu.pus k 0 ks a d) m from fun _ => rfl, chis_le, pus_good k 0 ks a d hd h.2 ha]
      exact ⟨fun e => ⟨by omega, e.2⟩, fun e => ⟨h.1, e.2⟩⟩
theorem pus_good (k : Int) : ∀ (i : Nat) (ts : List Co) (a : Co) (d : Int), 0 ≤ d → Co.all.alls headC ts = true → a.all headC = true → (Co.all.alls headC (Co.pu.pus k i ts a d) = true ↔ ∀ t ∈ Co.pu.pus k i ts a d, t.hi ≤ 255)
  | _, [], _, _, _, _, _ => by rw [Co.pu.pus, Co.all.alls]; simp
  | i, t :: ts, a, d, hd, h, ha => by
    rw [Co.all.alls, Bool.and_eq_true] at h
    rw [Co.pu.pus, Co.all.alls, Bool.and_eq_true, pu_good t a _ (by omega) h.1 ha, pus_good k (i + 1) ts a d hd h.2 ha]
    simp
end

/-- The code that validCopy gives, in the model's words. -/
theorem vcCd_of {t : Co} (hg : t.all headC = true ↔ t.hi ≤ 255) : vcCd t = if 400 < t.nn ∨ 80 < t.dp then 4 else if 255 < t.hi then 2 else 0 := by
  have hall : t.all anyH = true := all_any _
  have hp := Co.nn_pos t
  unfold vcCd
  by_cases h : 400 < t.nn ∨ 80 < t.dp
  · rw [if_pos h, if_pos]
    unfold kaSz
    exact if_neg (fun g => by have := g.2; omega)
  · have hk : kaSz t = (t.nn : Int) := by
      unfold kaSz
      exact if_pos ⟨hall, by omega, by omega⟩
    rw [if_neg h, if_neg (by rw [hk]; omega)]
    by_cases hh : 255 < t.hi
    · rw [if_pos hh, if_neg (fun e => by have := hg.1 (okC_good e).1; omega)]
    · rw [if_neg hh, if_pos (show okC t = true from decide_eq_true ⟨hg.2 (by omega), by omega, by omega⟩)]

/-- The code and the core term that InstantiateCore gives back. -/
def inCd (t a : Co) : Int := if okC t = true then (if okC a = true then vcCd (t.pu a 0) else 1) else 1
def inRs (t a : Co) : Co := if inCd t a = 0 then t.pu a 0 else zeC
theorem vcCd_pu {t a : Co} (ht : okC t = true) (ha : okC a = true) : vcCd (t.pu a 0) = if 400 < (t.pu a 0).nn ∨ 80 < (t.pu a 0).dp then 4 else if 255 < (t.pu a 0).hi then 2 else 0 :=
  vcCd_of (pu_good t a 0 (Int.le_refl _) (okC_good ht).1 (okC_good ha).1)
theorem vcCd_ok {t : Co} (h : vcCd t = 0) : okC t = true := by
  unfold vcCd at h
  split at h
  · cases h
  · split at h
    · assumption
    · cases h

end Go.Proofs.YtaenohcjmopnlaaDoor.Con
