/-
  How many marks an instance takes, and one of two arguments. No program in it.
-/
import Derived.Test.YtaenohcjmopnlaaDoorCoMz
import Derived.Test.YtaenohcjmopnlaaDoorCoPp
namespace Go.Proofs.YtaenohcjmopnlaaDoor.Con
open Go.RowKit
set_option linter.unusedVariables false

mutual
theorem all_mc : ∀ (t : Co), t.all headC = true → t.mc ≤ 6 * t.nn
  | .mk k v ds ks, h => by
    rw [Co.all, Bool.and_eq_true] at h
    have h1 := (headC_sm h.1).2.1
    have h2 := alls_mc ks h.2
    rw [Co.mc, Co.nn]
    omega
theorem alls_mc : ∀ (ts : List Co), Co.all.alls headC ts = true → Co.mc.mcl ts ≤ 6 * Co.nn.nns ts
  | [], _ => by rw [Co.mc.mcl, Co.nn.nns]; omega
  | t :: ts, h => by
    rw [Co.all.alls, Bool.and_eq_true] at h
    have h1 := all_mc t h.1
    have h2 := alls_mc ts h.2
    rw [Co.mc.mcl, Co.nn.nns]
    omega
end
theorem ok_mc {t : Co} (h : okC t = true) : t.mc ≤ 2400 := by
  have g := okC_good h
  have := all_mc t g.1
  have := g.2.2
  omega
theorem in_mc (t a : Co) : (if inCd t a = 0 then t.pu a 0 else zeC).mc ≤ 7999999 := by
  by_cases h : inCd t a = 0
  · rw [if_pos h]
    unfold inCd at h
    split at h
    · split at h
      · have := ok_mc (vcCd_ok h)
        omega
      · cases h
    · cases h
  · rw [if_neg h]
    show 2 + 0 + 0 ≤ 7999999
    decide
theorem mcn_lik4 {u t : LK} (h : u.co = t.co) (hz : t.sz ≤ 1048576) : 1 + u.mcn ≤ 4000000 := by
  have := mcn_sz t
  rw [mcn_co, h, ← mcn_co]
  omega
theorem mk_top (u : LK) (k : Nat) : (mkc u.ks (k + u.ds.length)).2 + 2 = k + u.mcn := by
  rw [(mkc_len u.ks _).1, mcn_eq]
  omega

end Go.Proofs.YtaenohcjmopnlaaDoor.Con
