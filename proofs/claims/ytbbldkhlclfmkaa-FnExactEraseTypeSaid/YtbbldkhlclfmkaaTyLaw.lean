/-
  Aids for the laws whose answer is a type: boxes that hold a type, what stays when another type is marked, how many marks there are. No program in it but type numbers.
-/
import Derived.Test.YtbbldkhlclfmkaaTyHeld
import Derived.Test.YtbbldkhlclfmkaaTyEraseI
import Derived.Test.YtbbldkhlclfmkaaTyEq
import Derived.Test.YtbbldkhlclfmkaaTySz
namespace Go.Proofs.Ytbbldkhlclfmkaa.Con
open Go.RowKit
set_option linter.unusedVariables false

/-- How many nodes a type has. -/
def Ty.cnt : Ty → Nat
  | .mk _ _ ks => 1 + cnts ks
where cnts : List Ty → Nat
  | [] => 0
  | t :: ts => t.cnt + cnts ts
theorem cnt_ty (t : LT) : t.ty.cnt = t.cnt := by
  refine LT.ind (P := fun t => t.ty.cnt = t.cnt) (fun k n a c ks ih => ?_) t
  rw [LT.ty_eq, Ty.cnt, cnt_eq]
  simp only [LT.ks]
  congr 1
  induction ks with
  | nil => simp [Ty.cnt.cnts, cntl_nil]
  | cons t ts ih2 =>
    rw [List.map_cons, Ty.cnt.cnts, cntl_cons, ih t (by simp), ih2 (fun u hu => ih u (by simp [hu]))]

theorem cnts_mem {ks : List Ty} {t : Ty} (h : t ∈ ks) : t.cnt ≤ Ty.cnt.cnts ks := by
  induction ks with
  | nil => cases h
  | cons u us ih =>
    rw [Ty.cnt.cnts]
    rcases List.mem_cons.1 h with rfl | h
    · omega
    · have := ih h; omega

theorem er_cnt (t : LT) : t.ty.er.cnt ≤ t.ty.cnt := by
  refine LT.ind (P := fun t => t.ty.er.cnt ≤ t.ty.cnt) (fun k n a c ks ih => ?_) t
  rw [LT.ty_eq, er_eq]
  simp only [LT.ks, List.map_map]
  have hs : Ty.cnt.cnts (ks.map (fun u => u.ty.er)) ≤ Ty.cnt.cnts (ks.map LT.ty) := by
    clear c a n k
    induction ks with
    | nil => exact Nat.le_refl _
    | cons t ts ih2 =>
      rw [List.map_cons, List.map_cons, Ty.cnt.cnts, Ty.cnt.cnts]
      have h1 := ih t (by simp)
      have h2 := ih2 (fun u hu => ih u (by simp [hu]))
      omega
  have e : (Ty.er ∘ LT.ty) = fun u : LT => u.ty.er := rfl
  rw [e]
  unfold erF
  split
  · cases ks with
    | nil => simp [Ty.cnt]
    | cons t ts =>
      have := ih t (by simp)
      simp only [List.map_cons, List.getD_cons_zero, Ty.cnt, Ty.cnt.cnts]
      omega
  · simp only [Ty.cnt] at hs ⊢
    omega

theorem erased_cnt (t : LT) : (erased t.ty).cnt ≤ t.ty.cnt := by
  unfold erased
  split
  · exact er_cnt t
  · rw [cnt_ty, cnt_eq]; simp [Ty.cnt, Ty.cnt.cnts]

theorem cnt_le_sz (t : LT) : t.cnt ≤ 1 + t.sz := by
  rw [cnt_eq, LT.sz_eq]
  have := cnt_sz t.ks
  omega

/-- A type made of one that was counted is not too large to be marked. -/
theorem cnt_small {t u : LT} {s : Ty} (hu : u.ty = s) (hs : s.cnt ≤ t.ty.cnt) (ht : t.sz ≤ 1048576) : 1 + 2 * cntl u.ks ≤ 8000000 := by
  have h1 := cnt_eq u
  have h2 := cnt_ty u
  have h3 := cnt_ty t
  have h4 := cnt_le_sz t
  rw [hu] at h2
  omega

end Go.Proofs.Ytbbldkhlclfmkaa.Con
