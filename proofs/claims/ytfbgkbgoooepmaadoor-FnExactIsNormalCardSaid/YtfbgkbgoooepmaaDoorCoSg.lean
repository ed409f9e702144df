/-
  A valid core term that is shifted is as large and as deep as before, and valid just if no index in it is too great. No program in it but the model's ranges.
-/
import Derived.Test.YtfbgkbgoooepmaaDoorCoHs
import Derived.Test.YtfbgkbgoooepmaaDoorCoAny
namespace Go.Proofs.YtfbgkbgoooepmaaDoor.Con
open Go.RowKit
set_option linter.unusedVariables false

mutual
theorem sh_nn : ∀ (t : Co) (n f : Int), (t.sh n f).nn = t.nn
  | .mk k v ds ks, n, f => by rw [Co.sh, Co.nn, Co.nn, shs_nn k 0 ks n f]
theorem shs_nn (k : Int) : ∀ (i : Nat) (ts : List Co) (n f : Int), Co.nn.nns (Co.sh.shs k i ts n f) = Co.nn.nns ts
  | _, [], _, _ => by rw [Co.sh.shs]
  | i, t :: ts, n, f => by rw [Co.sh.shs, Co.nn.nns, Co.nn.nns, sh_nn t n _, shs_nn k (i + 1) ts n f]
end
mutual
theorem sh_dp : ∀ (t : Co) (n f : Int), (t.sh n f).dp = t.dp
  | .mk k v ds ks, n, f => by rw [Co.sh, Co.dp, Co.dp, shs_dp k 0 ks n f]
theorem shs_dp (k : Int) : ∀ (i : Nat) (ts : List Co) (n f : Int), Co.dp.dps (Co.sh.shs k i ts n f) = Co.dp.dps ts
  | _, [], _, _ => by rw [Co.sh.shs]
  | i, t :: ts, n, f => by rw [Co.sh.shs, Co.dp.dps, Co.dp.dps, sh_dp t n _, shs_dp k (i + 1) ts n f]
end
theorem chis_le (c : Int) : ∀ (ks : List Co) (m : Int), chis ks m ≤ c ↔ m ≤ c ∧ ∀ t ∈ ks, t.hi ≤ c
  | [], m => by simp [chis, Co.hi.his]
  | t :: ts, m => by
    simp only [chis, Co.hi.his]
    have := chis_le c ts (max m t.hi)
    rw [show Co.hi.his ts (max m t.hi) = chis ts (max m t.hi) from rfl, this]
    simp only [List.mem_cons, forall_eq_or_imp]
    constructor
    · rintro ⟨h1, h2⟩; exact ⟨by omega, by omega, h2⟩
    · rintro ⟨h1, h2, h3⟩; exact ⟨by omega, h3⟩
theorem head_sh {k v : Int} {ds : List Int} {l : Nat} {n f : Int} (hn : 0 ≤ n) (h : headC k v ds l = true) : headC k (shV k v n f) ds l = true ↔ (if k = 1 then shV k v n f else -1) ≤ 255 := by
  by_cases h1 : k = 1
  · subst h1
    rw [if_pos rfl]
    have hv := headC_var h
    unfold headC at h ⊢
    simp only [Bool.and_eq_true] at h ⊢
    obtain ⟨a, b, c, d⟩ := h
    have hc : coV 1 (shV 1 v n f) = true ↔ shV 1 v n f ≤ 255 := by
      unfold coV
      rw [if_pos rfl]
      unfold inV
      simp only [decide_eq_true_eq]
      have h0 : 0 ≤ shV 1 v n f := by unfold shV; split <;> omega
      constructor
      · intro e; exact e.2
      · intro e; exact ⟨h0, e⟩
    rw [hc]
    exact ⟨fun e => e.2.2.1, fun e => ⟨a, b, e, d⟩⟩
  · rw [if_neg h1]
    have e : shV k v n f = v := by unfold shV; rw [if_neg (fun e => h1 e.1)]
    rw [e]
    exact ⟨fun _ => by decide, fun _ => h⟩
mutual
theorem sh_good : ∀ (t : Co) (n f : Int), 0 ≤ n → t.all headC = true → ((t.sh n f).all headC = true ↔ (t.sh n f).hi ≤ 255)
  | .mk k v ds ks, n, f, hn, h => by
    rw [Co.all, Bool.and_eq_true] at h
    have e1 := shs_len k n f ks 0
    have e1' : (Co.sh.shs k 0 ks n f).length = ks.length := e1
    have e2 := shs_good k 0 ks n f hn h.2
    have e3 := head_sh (n := n) (f := f) hn h.1
    rw [Co.sh, Co.all, Bool.and_eq_true, e1', Co.hi]
    rw [show ∀ m, Co.hi.his (Co.sh.shs k 0 ks n f) m = chis (Co.sh.shs k 0 ks n f) m from fun _ => rfl, chis_le, e3, e2]
theorem shs_good (k : Int) : ∀ (i : Nat) (ts : List Co) (n f : Int), 0 ≤ n → Co.all.alls headC ts = true → (Co.all.alls headC (Co.sh.shs k i ts n f) = true ↔ ∀ t ∈ Co.sh.shs k i ts n f, t.hi ≤ 255)
  | _, [], _, _, _, _ => by rw [Co.sh.shs, Co.all.alls]; simp
  | i, t :: ts, n, f, hn, h => by
    rw [Co.all.alls, Bool.and_eq_true] at h
    rw [Co.sh.shs, Co.all.alls, Bool.and_eq_true, sh_good t n _ hn h.1, shs_good k (i + 1) ts n f hn h.2]
    simp
end

mutual
theorem all_any : ∀ t : Co, t.all anyH = true
  | .mk k v ds ks => by rw [Co.all, alls_any ks]; rfl
theorem alls_any : ∀ ts : List Co, Co.all.alls anyH ts = true
  | [] => by rw [Co.all.alls]
  | t :: ts => by rw [Co.all.alls, all_any t, alls_any ts]; rfl
end
/-- The code that validCopy gives. -/
def vcCd (t : Co) : Int := if kaSz t = 0 then 4 else if okC t = true then 0 else 2
theorem vcCd_sh {t : Co} {n f : Int} (hok : okC t = true) (hn : 0 ≤ n) : vcCd (t.sh n f) = if 255 < (t.sh n f).hi then 2 else 0 := by
  obtain ⟨g1, g2, g3⟩ := okC_good hok
  have hnn := sh_nn t n f
  have hdp := sh_dp t n f
  have hall : (t.sh n f).all anyH = true := all_any _
  have hk : kaSz (t.sh n f) = ((t.sh n f).nn : Int) := by
    unfold kaSz
    exact if_pos ⟨hall, by omega, by omega⟩
  have hp := Co.nn_pos (t.sh n f)
  unfold vcCd
  rw [if_neg (by rw [hk]; omega)]
  have hg := sh_good t n f hn g1
  by_cases hh : 255 < (t.sh n f).hi
  · rw [if_pos hh, if_neg (fun e => by have := hg.1 (okC_good e).1; omega)]
  · rw [if_neg hh, if_pos (show okC (t.sh n f) = true from decide_eq_true ⟨hg.2 (by omega), by omega, by omega⟩)]

end Go.Proofs.YtfbgkbgoooepmaaDoor.Con
