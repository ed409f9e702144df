/-
  Aids for the law of StripBangs: what lies below the bangs is not larger.
-/
import Derived.Test.YtdlbhjkkgiaidaaTyLaw
import Derived.Test.YtdlbhjkkgiaidaaTyStrip
namespace Go.Proofs.Ytdlbhjkkgiaidaa.Con
open Go.RowKit
set_option linter.unusedVariables false

theorem strip_cnt (t : LT) : t.ty.strip.2.cnt ≤ t.ty.cnt := by
  refine LT.ind (P := fun t => t.ty.strip.2.cnt ≤ t.ty.cnt) (fun k n a c ks ih => ?_) t
  rw [LT.ty_eq]
  simp only [LT.k, LT.n, LT.ks]
  rw [Ty.strip]
  split
  · cases ks with
    | nil => exact Nat.le_refl _
    | cons t ts =>
      have := ih t (by simp)
      simp only [List.map_cons, Ty.strip.sts, Ty.cnt, Ty.cnt.cnts]
      omega
  · exact Nat.le_refl _

theorem stripped_cnt (t : LT) : (stripped t.ty).2.cnt ≤ t.ty.cnt := by
  unfold stripped
  split
  · exact strip_cnt t
  · rw [cnt_ty, cnt_eq]; simp [Ty.cnt, Ty.cnt.cnts]

end Go.Proofs.Ytdlbhjkkgiaidaa.Con
