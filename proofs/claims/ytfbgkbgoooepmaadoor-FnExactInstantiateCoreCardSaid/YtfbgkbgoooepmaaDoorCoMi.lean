/-
  How many marks a shifted core term and an instance take. No program in it.
-/
import Derived.Test.YtfbgkbgoooepmaaDoorCoMk
import Derived.Test.YtfbgkbgoooepmaaDoorCoHs
import Derived.Test.YtfbgkbgoooepmaaDoorCoPp
namespace Go.Proofs.YtfbgkbgoooepmaaDoor.Con
open Go.RowKit
set_option linter.unusedVariables false

mutual
theorem sh_mc : ∀ (t : Co) (n f : Int), (t.sh n f).mc = t.mc
  | .mk k v ds ks, n, f => by rw [Co.sh, Co.mc, Co.mc, shs_mc k 0 ks n f]
theorem shs_mc (k : Int) : ∀ (i : Nat) (ts : List Co) (n f : Int), Co.mc.mcl (Co.sh.shs k i ts n f) = Co.mc.mcl ts
  | _, [], _, _ => by rw [Co.sh.shs]
  | i, t :: ts, n, f => by rw [Co.sh.shs, Co.mc.mcl, Co.mc.mcl, sh_mc t n _, shs_mc k (i + 1) ts n f]
end
theorem mcn_sh {u t : LK} {n f : Int} (h : u.co = shRs t.co n f) (hz : t.sz ≤ 1048576) : 1 + u.mcn ≤ 8000000 := by
  have := mcn_sz t
  rw [mcn_co] at this ⊢
  rw [h]
  unfold shRs
  split
  · rw [sh_mc]; omega
  · show 1 + (2 + 0 + 0) ≤ 8000000
    decide
theorem in_mc (t a : Co) : (if inCd t a = 0 then t.pu a 0 else zeC).mc ≤ 7999999 := by
  by_cases h : inCd t a = 0
  · rw [if_pos h]
    unfold inCd at h
    split at h
    · split at h
      · have := ok_mc (vcCd_ok h)
        omega
      · cases h
    · cases h
  · rw [if_neg h]
    show 2 + 0 + 0 ≤ 7999999
    decide
end Go.Proofs.YtfbgkbgoooepmaaDoor.Con
