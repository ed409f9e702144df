/-
  An argument that is a type, opened (as in TyValid, for texts that do not need the nodes). No condition.
-/
import Derived.Test.YtbbldkhlclfmkaaTy
namespace Go.Proofs.Ytbbldkhlclfmkaa.Con
open Go.RowKit Go.ChangeShapes Go.WideShapes Go.ChangeAt Go.Deep
set_option linter.unusedVariables false

set_option maxRecDepth 100000 in
theorem open_type {H : Type} {enc : TypeId × Value → H} {W : World} {r : Reach} {b0 : Nat} {v : Value} {d : DataW H} {p : List MemPlace}
    (hval : Value.okWide Try.prog W r b0 24 v) (h : DataW.Trod enc Try.prog W 0 (fun _ => true) true 24 v d p) : ∃ u : LT, v = u.val ∧ u.Ok W := by
  obtain ⟨cs, rfl, hsz⟩ := okWide_struct Try.underlying24 hval
  obtain ⟨fuel, hf⟩ := h
  obtain ⟨u, hu, hok⟩ := lt_of_trod (kk := 2) (kn := 9) (ks := 22) Try.underlying24 rfl rfl rfl rfl rfl rfl Try.underlying2 Try.underlying9 Try.underlying22 (by kernel_rfl) (by kernel_rfl) (by kernel_rfl) (by kernel_rfl) fuel _ _ hf
  refine ⟨u, ?_, hok⟩
  have : cs.toList = [.int .i64 u.k, .string u.n, .slice u.a u.ks.length u.cap] := hu
  obtain ⟨l⟩ := cs
  simp at this
  subst this
  rfl

end Go.Proofs.Ytbbldkhlclfmkaa.Con
