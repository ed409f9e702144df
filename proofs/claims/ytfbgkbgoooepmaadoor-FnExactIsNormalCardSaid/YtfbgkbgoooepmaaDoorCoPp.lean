/-
  A core term with one of its variables replaced, as a function on terms without addresses: how large and how deep it is, and when it is valid. No program in it but the model's ranges.
  The erasure of a core term, as a function on terms without addresses: nothing if the erasure of a node is too large or too deep. For a closed term no index is too great. No program in it but the model's ranges.
-/
import Derived.Test.YtfbgkbgoooepmaaDoorCoSg
import Derived.Test.YtfbgkbgoooepmaaDoorCoCn
namespace Go.Proofs.YtfbgkbgoooepmaaDoor.Con
open Go.RowKit
set_option linter.unusedVariables false

/-- The variable d replaced by a. -/
def Co.pu : Co → Co → Int → Co
  | .mk k v ds ks, a, d => if k = 1 then (if v = d then a.sh d 0 else .mk 1 (if d < v then v - 1 else v) [] []) else .mk k v ds (pus k 0 ks a d)
where pus (k : Int) : Nat → List Co → Co → Int → List Co
  | _, [], _, _ => []
  | i, t :: ts, a, d => t.pu a (d + bndK k i) :: pus k (i + 1) ts a d
abbrev copus (k : Int) (i : Nat) (ts : List Co) (a : Co) (d : Int) : List Co := Co.pu.pus k i ts a d
theorem pu_eq (t a : Co) (d : Int) : t.pu a d = if t.k = 1 then (if t.v = d then a.sh d 0 else .mk 1 (if d < t.v then t.v - 1 else t.v) [] []) else .mk t.k t.v t.ds (copus t.k 0 t.ks a d) := by
  obtain ⟨k, v, ds, ks⟩ := t
  rw [Co.pu]; rfl
theorem pus_len (k : Int) (a : Co) (d : Int) : ∀ (ts : List Co) (i : Nat), (copus k i ts a d).length = ts.length
  | [], _ => by simp [copus, Co.pu.pus]
  | t :: ts, i => by simp only [copus, Co.pu.pus, List.length_cons]; rw [pus_len k a d ts (i + 1)]
theorem pus_get (k : Int) (a : Co) (d : Int) : ∀ (ts : List Co) (i j : Nat) (hj : j < ts.length), (copus k i ts a d)[j]? = some (ts[j].pu a (d + bndK k (i + j)))
  | t :: ts, i, 0, _ => by simp [copus, Co.pu.pus]
  | t :: ts, i, j + 1, hj => by
    simp only [copus, Co.pu.pus, List.getElem?_cons_succ, List.getElem_cons_succ]
    have := pus_get k a d ts (i + 1) j (by simpa using hj)
    rw [this, show i + 1 + j = i + (j + 1) by omega]

/-- How often the variable d occurs. -/
def Co.cn : Co → Int → Nat
  | .mk k v _ ks, d => if k = 1 then (if v = d then 1 else 0) else cns k 0 ks d
where cns (k : Int) : Nat → List Co → Int → Nat
  | _, [], _ => 0
  | i, t :: ts, d => t.cn (d + bndK k i) + cns k (i + 1) ts d
theorem leaf_of {k v : Int} {ds : List Int} {ks : List Co} (h : headC k v ds ks.length = true) (hk : k = 1) : ks = [] ∧ ds = [] ∧ 0 ≤ v ∧ v ≤ 255 := by
  subst hk
  have := headC_var h
  exact ⟨List.eq_nil_of_length_eq_zero this.1, this.2⟩
mutual
theorem cn_pl : ∀ (t : Co) (x : Int) (bd lv : Nat), t.all headC = true → (t.pl bd lv).countP (isP x) = t.cn (x + bd)
  | .mk k v ds ks, x, bd, lv, h => by
    rw [Co.all, Bool.and_eq_true] at h
    rw [Co.pl, Co.cn, List.countP_cons]
    by_cases hk : k = 1
    · obtain ⟨rfl, rfl, _, _⟩ := leaf_of h.1 hk
      subst hk
      rw [if_pos rfl, Co.pl.pls]
      unfold isP
      by_cases hv : v = x + bd
      · rw [if_pos hv]; simp [hv]
      · rw [if_neg hv]; simp [hv]
    · rw [if_neg hk, cns_pl k 0 ks x bd _ h.2]
      have : isP x ⟨k, v, ds, ks.length, bd, lv⟩ = false := by unfold isP; simp [hk]
      rw [this]; simp
theorem cns_pl (k : Int) : ∀ (i : Nat) (ts : List Co) (x : Int) (bd lv : Nat), Co.all.alls headC ts = true → (Co.pl.pls k bd lv i ts).countP (isP x) = Co.cn.cns k i ts (x + bd)
  | _, [], _, _, _, _ => by rw [Co.pl.pls, Co.cn.cns]; rfl
  | i, t :: ts, x, bd, lv, h => by
    rw [Co.all.alls, Bool.and_eq_true] at h
    rw [Co.pl.pls, Co.cn.cns, List.countP_append, cn_pl t x _ lv h.1, cns_pl k (i + 1) ts x bd lv h.2]
    rw [show x + ((bd + bndK k i : Nat) : Int) = x + bd + bndK k i by omega]
end
theorem cntP_cn {t : Co} (h : t.all headC = true) : cntP t 0 0 0 = t.cn 0 := by
  have := cn_pl t (0 - ((0 : Nat) : Int)) 0 0 h
  unfold cntP
  rw [this]
  rfl

mutual
theorem pu_nn : ∀ (t a : Co) (d : Int), t.all headC = true → (t.pu a d).nn + t.cn d = t.nn + t.cn d * a.nn
  | .mk k v ds ks, a, d, h => by
    rw [Co.all, Bool.and_eq_true] at h
    rw [Co.pu, Co.cn]
    by_cases hk : k = 1
    · obtain ⟨rfl, rfl, _, _⟩ := leaf_of h.1 hk
      rw [if_pos hk, if_pos hk]
      by_cases hv : v = d
      · rw [if_pos hv, if_pos hv, sh_nn]; simp [Co.nn, Co.nn.nns]; omega
      · rw [if_neg hv, if_neg hv]; simp [Co.nn, Co.nn.nns]
    · rw [if_neg hk, if_neg hk, Co.nn, Co.nn]
      have := pus_nn k 0 ks a d h.2
      omega
theorem pus_nn (k : Int) : ∀ (i : Nat) (ts : List Co) (a : Co) (d : Int), Co.all.alls headC ts = true → Co.nn.nns (Co.pu.pus k i ts a d) + Co.cn.cns k i ts d = Co.nn.nns ts + Co.cn.cns k i ts d * a.nn
  | _, [], _, _, _ => by rw [Co.pu.pus, Co.cn.cns]; simp
  | i, t :: ts, a, d, h => by
    rw [Co.all.alls, Bool.and_eq_true] at h
    rw [Co.pu.pus, Co.cn.cns, Co.nn.nns, Co.nn.nns]
    have h1 := pu_nn t a (d + bndK k i) h.1
    have h2 := pus_nn k (i + 1) ts a d h.2
    rw [Nat.add_mul]
    omega
end
mutual
theorem pu_dp : ∀ (t a : Co) (d : Int), (t.pu a d).dp ≤ t.dp + a.dp
  | .mk k v ds ks, a, d => by
    rw [Co.pu]
    by_cases hk : k = 1
    · rw [if_pos hk]
      by_cases hv : v = d
      · rw [if_pos hv, sh_dp]; omega
      · rw [if_neg hv]; simp [Co.dp, Co.dp.dps]; omega
    · rw [if_neg hk, Co.dp, Co.dp]
      have := pus_dp k 0 ks a d
      omega
theorem pus_dp (k : Int) : ∀ (i : Nat) (ts : List Co) (a : Co) (d : Int), Co.dp.dps (Co.pu.pus k i ts a d) ≤ Co.dp.dps ts + a.dp
  | _, [], _, _ => by rw [Co.pu.pus]; simp [Co.dp.dps]
  | i, t :: ts, a, d => by
    rw [Co.pu.pus, Co.dp.dps, Co.dp.dps]
    have h1 := pu_dp t a (d + bndK k i)
    have h2 := pus_dp k (i + 1) ts a d
    omega
end
mutual
theorem pu_good : ∀ (t a : Co) (d : Int), 0 ≤ d → t.all headC = true → a.all headC = true → ((t.pu a d).all headC = true ↔ (t.pu a d).hi ≤ 255)
  | .mk k v ds ks, a, d, hd, h, ha => by
    rw [Co.all, Bool.and_eq_true] at h
    rw [Co.pu]
    by_cases hk : k = 1
    · obtain ⟨rfl, rfl, hv0, hv1⟩ := leaf_of h.1 hk
      rw [if_pos hk]
      by_cases hv : v = d
      · rw [if_pos hv]; exact sh_good a d 0 hd ha
      · rw [if_neg hv]
        obtain ⟨y, hy⟩ : ∃ y, y = (if d < v then v - 1 else v) := ⟨_, rfl⟩
        have hy2 : 0 ≤ y ∧ y ≤ 255 := by rw [hy]; split <;> omega
        rw [← hy]
        have e1 : (Co.mk 1 y [] []).all headC = true := by
          rw [Co.all, Co.all.alls]
          unfold headC inV coV coLo coHi cdLo cdHi coD inV
          simp
          omega
        have e2 : (Co.mk 1 y [] []).hi = y := by rw [Co.hi, if_pos rfl]; rfl
        rw [e1, e2]
        exact ⟨fun _ => hy2.2, fun _ => rfl⟩
    · rw [if_neg hk]
      have e1' : (Co.pu.pus k 0 ks a d).length = ks.length := pus_len k a d ks 0
      rw [Co.all, Bool.and_eq_true, e1', Co.hi, if_neg hk]
      rw [show ∀ m, Co.hi.his (Co.pu.pus k 0 ks a d) m = chis (Co.pu.pus k 0 ks a d) m from fun _ => rfl, chis_le, pus_good k 0 ks a d hd h.2 ha]
      exact ⟨fun e => ⟨by omega, e.2⟩, fun e => ⟨h.1, e.2⟩⟩
theorem pus_good (k : Int) : ∀ (i : Nat) (ts : List Co) (a : Co) (d : Int), 0 ≤ d → Co.all.alls headC ts = true → a.all headC = true → (Co.all.alls headC (Co.pu.pus k i ts a d) = true ↔ ∀ t ∈ Co.pu.pus k i ts a d, t.hi ≤ 255)
  | _, [], _, _, _, _, _ => by rw [Co.pu.pus, Co.all.alls]; simp
  | i, t :: ts, a, d, hd, h, ha => by
    rw [Co.all.alls, Bool.and_eq_true] at h
    rw [Co.pu.pus, Co.all.alls, Bool.and_eq_true, pu_good t a _ (by omega) h.1 ha, pus_good k (i + 1) ts a d hd h.2 ha]
    simp
end

/-- The code that validCopy gives, in the model's words. -/
theorem vcCd_of {t : Co} (hg : t.all headC = true ↔ t.hi ≤ 255) : vcCd t = if 400 < t.nn ∨ 80 < t.dp then 4 else if 255 < t.hi then 2 else 0 := by
  have hall : t.all anyH = true := all_any _
  have hp := Co.nn_pos t
  unfold vcCd
  by_cases h : 400 < t.nn ∨ 80 < t.dp
  · rw [if_pos h, if_pos]
    unfold kaSz
    exact if_neg (fun g => by have := g.2; omega)
  · have hk : kaSz t = (t.nn : Int) := by
      unfold kaSz
      exact if_pos ⟨hall, by omega, by omega⟩
    rw [if_neg h, if_neg (by rw [hk]; omega)]
    by_cases hh : 255 < t.hi
    · rw [if_pos hh, if_neg (fun e => by have := hg.1 (okC_good e).1; omega)]
    · rw [if_neg hh, if_pos (show okC t = true from decide_eq_true ⟨hg.2 (by omega), by omega, by omega⟩)]

/-- The code and the core term that InstantiateCore gives back. -/
def inCd (t a : Co) : Int := if okC t = true then (if okC a = true then vcCd (t.pu a 0) else 1) else 1
def inRs (t a : Co) : Co := if inCd t a = 0 then t.pu a 0 else zeC
theorem vcCd_pu {t a : Co} (ht : okC t = true) (ha : okC a = true) : vcCd (t.pu a 0) = if 400 < (t.pu a 0).nn ∨ 80 < (t.pu a 0).dp then 4 else if 255 < (t.pu a 0).hi then 2 else 0 :=
  vcCd_of (pu_good t a 0 (Int.le_refl _) (okC_good ht).1 (okC_good ha).1)
theorem vcCd_ok {t : Co} (h : vcCd t = 0) : okC t = true := by
  unfold vcCd at h
  split at h
  · cases h
  · split at h
    · assumption
    · cases h

end Go.Proofs.YtfbgkbgoooepmaaDoor.Con

namespace Go.Proofs.YtfbgkbgoooepmaaDoor.Con
open Go.RowKit
set_option linter.unusedVariables false

/-- All free variables are less than d. -/
def Co.cl : Co → Int → Bool
  | .mk k v _ ks, d => (if k = 1 then decide (v < d) else true) && cls k 0 ks d
where cls (k : Int) : Nat → List Co → Int → Bool
  | _, [], _ => true
  | i, t :: ts, d => t.cl (d + bndK k i) && cls k (i + 1) ts d
mutual
theorem cl_pl : ∀ (t : Co) (bd lv : Nat), (t.pl bd lv).any freeP = false → t.cl bd = true
  | .mk k v ds ks, bd, lv, h => by
    rw [Co.pl, List.any_cons, Bool.or_eq_false_iff] at h
    rw [Co.cl, Bool.and_eq_true]
    refine ⟨?_, cls_pl k 0 ks bd _ h.2⟩
    have h1 := h.1
    unfold freeP at h1
    by_cases hk : k = 1
    · rw [if_pos hk]; simp [hk] at h1; simpa using h1
    · rw [if_neg hk]
theorem cls_pl (k : Int) : ∀ (i : Nat) (ts : List Co) (bd lv : Nat), (Co.pl.pls k bd lv i ts).any freeP = false → Co.cl.cls k i ts bd = true
  | _, [], _, _, _ => by rw [Co.cl.cls]
  | i, t :: ts, bd, lv, h => by
    rw [Co.pl.pls, List.any_append, Bool.or_eq_false_iff] at h
    rw [Co.cl.cls, Bool.and_eq_true]
    have h1 := cl_pl t (bd + bndK k i) lv h.1
    rw [show (((bd + bndK k i : Nat) : Nat) : Int) = (bd : Int) + bndK k i by omega] at h1
    exact ⟨h1, cls_pl k (i + 1) ts bd lv h.2⟩
end
theorem closC_cl {t : Co} (h : closC t = true) : okC t = true ∧ t.cl 0 = true := by
  unfold closC at h
  rw [Bool.and_eq_true] at h
  refine ⟨h.1, ?_⟩
  have h2 := h.2
  have := cl_pl t 0 0 (by simpa using h2)
  exact this
mutual
theorem sh_cl : ∀ (t : Co) (n f e : Int), 0 ≤ n → t.cl e = true → (t.sh n f).cl (e + n) = true
  | .mk k v ds ks, n, f, e, hn, h => by
    rw [Co.cl, Bool.and_eq_true] at h
    rw [Co.sh, Co.cl, Bool.and_eq_true]
    refine ⟨?_, shs_cl k 0 ks n f e hn h.2⟩
    have h1 := h.1
    by_cases hk : k = 1
    · rw [if_pos hk] at h1 ⊢
      simp only [decide_eq_true_eq] at h1 ⊢
      unfold shV
      split <;> omega
    · rw [if_neg hk]
theorem shs_cl (k : Int) : ∀ (i : Nat) (ts : List Co) (n f e : Int), 0 ≤ n → Co.cl.cls k i ts e = true → Co.cl.cls k i (Co.sh.shs k i ts n f) (e + n) = true
  | _, [], _, _, _, _, _ => by rw [Co.sh.shs, Co.cl.cls]
  | i, t :: ts, n, f, e, hn, h => by
    rw [Co.cl.cls, Bool.and_eq_true] at h
    rw [Co.sh.shs, Co.cl.cls, Bool.and_eq_true]
    have h1 := sh_cl t n (f + bndK k i) _ hn h.1
    rw [show e + (bndK k i : Int) + n = e + n + bndK k i by omega] at h1
    exact ⟨h1, shs_cl k (i + 1) ts n f e hn h.2⟩
end
mutual
theorem pu_cl : ∀ (t a : Co) (d e : Int), 0 ≤ d → 0 ≤ e → t.cl (d + 1 + e) = true → a.cl e = true → (t.pu a d).cl (d + e) = true
  | .mk k v ds ks, a, d, e, hd, he, h, ha => by
    rw [Co.cl, Bool.and_eq_true] at h
    rw [Co.pu]
    have h1 := h.1
    by_cases hk : k = 1
    · rw [if_pos hk]
      rw [if_pos hk] at h1
      simp only [decide_eq_true_eq] at h1
      by_cases hv : v = d
      · rw [if_pos hv, show d + e = e + d by omega]
        exact sh_cl a d 0 e hd ha
      · rw [if_neg hv, Co.cl, Bool.and_eq_true]
        refine ⟨?_, by rw [Co.cl.cls]⟩
        rw [if_pos rfl]
        simp only [decide_eq_true_eq]
        split <;> omega
    · rw [if_neg hk, Co.cl, Bool.and_eq_true]
      exact ⟨by rw [if_neg hk], pus_cl k 0 ks a d e hd he h.2 ha⟩
theorem pus_cl (k : Int) : ∀ (i : Nat) (ts : List Co) (a : Co) (d e : Int), 0 ≤ d → 0 ≤ e → Co.cl.cls k i ts (d + 1 + e) = true → a.cl e = true → Co.cl.cls k i (Co.pu.pus k i ts a d) (d + e) = true
  | _, [], _, _, _, _, _, _, _ => by rw [Co.pu.pus, Co.cl.cls]
  | i, t :: ts, a, d, e, hd, he, h, ha => by
    rw [Co.cl.cls, Bool.and_eq_true] at h
    rw [Co.pu.pus, Co.cl.cls, Bool.and_eq_true]
    have h0 := h.1
    rw [show d + 1 + e + (bndK k i : Int) = d + bndK k i + 1 + e by omega] at h0
    have h1 := pu_cl t a (d + bndK k i) e (by omega) he h0 ha
    rw [show d + (bndK k i : Int) + e = d + e + bndK k i by omega] at h1
    exact ⟨h1, pus_cl k (i + 1) ts a d e hd he h.2 ha⟩
end
mutual
theorem cl_hi : ∀ (t : Co) (d : Int), 0 ≤ d → t.cl d = true → t.hi < d + t.dp
  | .mk k v ds ks, d, hd, h => by
    rw [Co.cl, Bool.and_eq_true] at h
    rw [Co.hi, Co.dp]
    have h1 := h.1
    have h2 := cls_hi k 0 ks d hd h.2
    have key : chis ks (if k = 1 then v else -1) ≤ d + ((Co.dp.dps ks : Nat) : Int) := by
      rw [chis_le]
      refine ⟨?_, fun t ht => ?_⟩
      · by_cases hk : k = 1
        · rw [if_pos hk] at h1 ⊢
          simp only [decide_eq_true_eq] at h1
          omega
        · rw [if_neg hk]; omega
      · exact h2 t ht
    have key' : Co.hi.his ks (if k = 1 then v else -1) ≤ d + ((Co.dp.dps ks : Nat) : Int) := key
    omega
theorem cls_hi (k : Int) : ∀ (i : Nat) (ts : List Co) (d : Int), 0 ≤ d → Co.cl.cls k i ts d = true → ∀ t ∈ ts, t.hi ≤ d + ((Co.dp.dps ts : Nat) : Int)
  | _, [], _, _, _ => by simp
  | i, t :: ts, d, hd, h => by
    rw [Co.cl.cls, Bool.and_eq_true] at h
    have h1 := cl_hi t (d + bndK k i) (by omega) h.1
    have h2 := cls_hi k (i + 1) ts d hd h.2
    have hb := bndK_le k i
    intro x hx
    rw [Co.dp.dps]
    rcases List.mem_cons.1 hx with rfl | hx
    · omega
    · have := h2 x hx
      omega
end

/-- The erasure of a node whose kids' erasures are rs. -/
def erN (k v : Int) (ds : List Int) (rs : List Co) : Co := if k = 6 then rs.getD 0 default else if k = 7 then (rs.getD 1 default).pu (rs.getD 0 default) 0 else .mk k v ds rs
def Co.er : Co → Option Co
  | .mk k v ds ks => match ers ks with
    | none => none
    | some rs => if okC (erN k v ds rs) = true then some (erN k v ds rs) else none
where ers : List Co → Option (List Co)
  | [] => some []
  | t :: ts => match t.er with
    | none => none
    | some r => match ers ts with
      | none => none
      | some rs => some (r :: rs)
theorem er_eq (t : Co) : t.er = match Co.er.ers t.ks with
    | none => none
    | some rs => if okC (erN t.k t.v t.ds rs) = true then some (erN t.k t.v t.ds rs) else none := by
  obtain ⟨k, v, ds, ks⟩ := t
  rw [Co.er]; rfl
theorem ers_none : ∀ (ts : List Co) (i : Nat) (h : i < ts.length), ts[i].er = none → Co.er.ers ts = none
  | t :: ts, 0, _, h => by rw [Co.er.ers]; simp only [List.getElem_cons_zero] at h; rw [h]
  | t :: ts, i + 1, hi, h => by
    simp only [List.getElem_cons_succ] at h
    have := ers_none ts i (by simpa using hi) h
    rw [Co.er.ers, this]
    cases t.er <;> rfl
theorem ers_some : ∀ (ts rs : List Co), ts.length = rs.length → (∀ i (h : i < ts.length) (h2 : i < rs.length), ts[i].er = some rs[i]) → Co.er.ers ts = some rs
  | [], [], _, _ => by rw [Co.er.ers]
  | t :: ts, r :: rs, hl, h => by
    have h0 := h 0 (by simp) (by simp)
    simp only [List.getElem_cons_zero] at h0
    have := ers_some ts rs (by simpa using hl) fun i h1 h2 => by
      have := h (i + 1) (by simpa using h1) (by simpa using h2)
      simpa using this
    rw [Co.er.ers, h0, this]
theorem er_none_kid {t : Co} (i : Nat) (h : i < t.ks.length) (hk : t.ks[i].er = none) : t.er = none := by
  rw [er_eq, ers_none t.ks i h hk]
theorem er_kids {t : Co} {rs : List Co} (hl : t.ks.length = rs.length) (h : ∀ i (h : i < t.ks.length) (h2 : i < rs.length), t.ks[i].er = some rs[i]) : t.er = if okC (erN t.k t.v t.ds rs) = true then some (erN t.k t.v t.ds rs) else none := by
  rw [er_eq, ers_some t.ks rs hl h]
theorem er_ok {t r : Co} (h : t.er = some r) : okC r = true := by
  rw [er_eq] at h
  cases hs : Co.er.ers t.ks with
  | none => rw [hs] at h; cases h
  | some rs =>
    rw [hs] at h
    simp only at h
    split at h
    · injection h with h
      subst h
      assumption
    · cases h
theorem ers_len : ∀ (ts rs : List Co), Co.er.ers ts = some rs → rs.length = ts.length ∧ ∀ i (h : i < ts.length) (h2 : i < rs.length), ts[i].er = some rs[i]
  | [], rs, h => by rw [Co.er.ers] at h; injection h with h; subst h; exact ⟨rfl, fun i h => by simp at h⟩
  | t :: ts, rs, h => by
    rw [Co.er.ers] at h
    cases ht : t.er with
    | none => rw [ht] at h; cases h
    | some r =>
      rw [ht] at h
      cases hs : Co.er.ers ts with
      | none => rw [hs] at h; cases h
      | some rs' =>
        rw [hs] at h
        injection h with h
        subst h
        obtain ⟨h1, h2⟩ := ers_len ts rs' hs
        refine ⟨by simp [h1], fun i hi hi2 => ?_⟩
        cases i with
        | zero => simpa using ht
        | succ i => simpa using h2 i (by simpa using hi) (by simpa using hi2)

theorem headC_kids {k v : Int} {ds : List Int} {l : Nat} (h : headC k v ds l = true) : (k = 6 → l = 1) ∧ (k = 7 → l = 2) := by
  unfold headC at h
  simp only [Bool.and_eq_true] at h
  have h1 := h.1
  unfold inV at h1
  simp only [decide_eq_true_eq] at h1
  constructor
  · rintro rfl
    have e1 : coLo 6 = 1 := rfl
    have e2 : coHi 6 = 1 := rfl
    omega
  · rintro rfl
    have e1 : coLo 7 = 2 := rfl
    have e2 : coHi 7 = 2 := rfl
    omega
theorem cls_get (k : Int) (d : Int) : ∀ (ts : List Co) (i : Nat), Co.cl.cls k i ts d = true ↔ ∀ j (h : j < ts.length), ts[j].cl (d + bndK k (i + j)) = true
  | [], i => by rw [Co.cl.cls]; simp
  | t :: ts, i => by
    rw [Co.cl.cls, Bool.and_eq_true, cls_get k d ts (i + 1)]
    constructor
    · rintro ⟨h1, h2⟩ j hj
      cases j with
      | zero => simpa using h1
      | succ j =>
        have := h2 j (by simpa using hj)
        rw [show i + 1 + j = i + (j + 1) by omega] at this
        simpa using this
    · intro h
      refine ⟨by have h0 := h 0 (by simp); rw [List.getElem_cons_zero, Nat.add_zero] at h0; exact h0, fun j hj => ?_⟩
      have := h (j + 1) (by simpa using hj)
      rw [show i + 1 + j = i + (j + 1) by omega]
      simpa using this
theorem cl_eq (t : Co) (d : Int) : t.cl d = ((if t.k = 1 then decide (t.v < d) else true) && Co.cl.cls t.k 0 t.ks d) := by
  obtain ⟨k, v, ds, ks⟩ := t
  rw [Co.cl]; rfl
theorem getD_lt {l : List Co} {i : Nat} (h : i < l.length) : l.getD i default = l[i] := by rw [List.getD, List.getElem?_eq_getElem h]; rfl
/-- The erasure of a node is as closed as the node. -/
theorem erN_cl {t : Co} {rs : List Co} {d : Int} (hd : 0 ≤ d) (hh : headC t.k t.v t.ds t.ks.length = true) (hc : t.cl d = true) (hl : t.ks.length = rs.length) (h : ∀ i (h : i < t.ks.length) (h2 : i < rs.length), rs[i].cl (d + bndK t.k i) = true) : (erN t.k t.v t.ds rs).cl d = true := by
  obtain ⟨k6, k7⟩ := headC_kids hh
  unfold erN
  by_cases h6 : t.k = 6
  · rw [if_pos h6]
    have := h 0 (by rw [k6 h6]; omega) (by rw [← hl, k6 h6]; omega)
    rw [getD_lt (by rw [← hl, k6 h6]; omega)]
    rw [h6] at this
    simpa [bndK] using this
  · rw [if_neg h6]
    by_cases h7 : t.k = 7
    · rw [if_pos h7]
      have l0 : 0 < rs.length := by rw [← hl, k7 h7]; omega
      have l1 : 1 < rs.length := by rw [← hl, k7 h7]; omega
      have e0 := h 0 (by rw [hl]; exact l0) l0
      have e1 := h 1 (by rw [hl]; exact l1) l1
      rw [getD_lt l0, getD_lt l1]
      rw [h7] at e0 e1
      have := pu_cl rs[1] rs[0] 0 d (Int.le_refl _) hd (by simpa [bndK, Int.add_comm] using e1) (by simpa [bndK] using e0)
      simpa using this
    · rw [if_neg h7, Co.cl, Bool.and_eq_true]
      rw [cl_eq, Bool.and_eq_true] at hc
      refine ⟨hc.1, (cls_get _ _ _ _).2 fun j hj => ?_⟩
      have := h j (by rw [hl]; exact hj) hj
      simpa using this
theorem er_cl_of (t : Co) (ih : ∀ u ∈ t.ks, ∀ (d : Int) (r : Co), 0 ≤ d → u.all headC = true → u.cl d = true → u.er = some r → r.cl d = true) (d : Int) (r : Co) (hd : 0 ≤ d) (hh : t.all headC = true) (hc : t.cl d = true) (h : t.er = some r) : r.cl d = true := by
  rw [er_eq] at h
  cases hs : Co.er.ers t.ks with
  | none => rw [hs] at h; cases h
  | some rs =>
    rw [hs] at h
    simp only at h
    obtain ⟨hl, hg⟩ := ers_len _ _ hs
    rw [Co.all_eq, Bool.and_eq_true, calls_iff] at hh
    have hc' := hc
    rw [cl_eq, Bool.and_eq_true, cls_get] at hc'
    have key := erN_cl hd hh.1 hc hl.symm fun i h1 h2 => by
      have h3 := hc'.2 i h1
      rw [Nat.zero_add] at h3
      exact ih _ (List.getElem_mem h1) _ _ (by omega) (hh.2 _ (List.getElem_mem h1)) h3 (hg i h1 h2)
    split at h
    · injection h with h
      subst h
      exact key
    · cases h
theorem er_cl (t : Co) : ∀ (d : Int) (r : Co), 0 ≤ d → t.all headC = true → t.cl d = true → t.er = some r → r.cl d = true := by
  refine Co.ind (P := fun t => ∀ (d : Int) (r : Co), 0 ≤ d → t.all headC = true → t.cl d = true → t.er = some r → r.cl d = true) (fun k v ds ks ih d r hd hh hc h => ?_) t
  exact er_cl_of (.mk k v ds ks) ih d r hd hh hc h

/-- The result of a node has no index that is too great, if it is not too deep. -/
theorem fits_ok {t : Co} {d : Int} (hd : 0 ≤ d ∧ d ≤ 81) (hg : t.all headC = true ↔ t.hi ≤ 255) (hc : t.cl d = true) : okC t = true ↔ t.nn ≤ 400 ∧ t.dp ≤ 80 := by
  constructor
  · intro h
    have := okC_good h
    exact ⟨this.2.2, this.2.1⟩
  · rintro ⟨h1, h2⟩
    have := cl_hi t d hd.1 hc
    exact decide_eq_true ⟨hg.2 (by omega), h2, h1⟩
theorem okC_of_kids {k v : Int} {ds : List Int} {rs : List Co} (hh : headC k v ds rs.length = true) (h : ∀ r ∈ rs, okC r = true) : okC (.mk k v ds rs) = true ↔ (Co.mk k v ds rs).nn ≤ 400 ∧ (Co.mk k v ds rs).dp ≤ 80 := by
  constructor
  · intro h
    have := okC_good h
    exact ⟨this.2.2, this.2.1⟩
  · rintro ⟨h1, h2⟩
    refine decide_eq_true ⟨?_, h2, h1⟩
    rw [Co.all, Bool.and_eq_true]
    exact ⟨hh, (calls_iff _ _).2 fun r hr => (okC_good (h r hr)).1⟩

end Go.Proofs.YtfbgkbgoooepmaaDoor.Con
