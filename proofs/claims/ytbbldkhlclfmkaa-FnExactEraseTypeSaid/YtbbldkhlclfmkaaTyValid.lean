/-
  Contracts of impl.ValidType and impl.TypeSize; an argument of the laws is a type that lies in memory. No condition but that the type can be read.
-/
import Derived.Test.YtbbldkhlclfmkaaTyNodes
import Derived.Test.YtbbldkhlclfmkaaTySpec
namespace Go.Proofs.Ytbbldkhlclfmkaa.Con
open Go.RowKit Go.ChangeShapes Go.WideShapes Go.ChangeAt
set_option linter.unusedVariables false

theorem size_pos {t : Ty} (h : validB t = true) : 0 < sizeN t := by
  unfold sizeN validB at *
  cases h' : t.nd 6 with
  | none => rw [h'] at h; cases h
  | some m => rw [h'] at h; have := nd_small (Nat.le_refl 6) h'; simp at h; simp [h]; omega

theorem size_le (t : Ty) : sizeN t ≤ 16 := by
  unfold sizeN
  cases t.nd 6 with
  | none => simp
  | some m => simp; split <;> omega

theorem impl_valid (t : LT) (w : World) (h : t.Ok w) : Calls Try.prog 44 #[t.val] w (BoolGw (validB t.ty) w) := by
  have h1 := h.grow ((Below.refl w.heap.size w).alloc (Nat.le_refl _) (.cells #[.int .i64 t.k, .string t.n, .slice t.a t.ks.length t.cap] 29))
  have key := impl_nodes t _ h1
  go_enter Try.func44, Try.ntmps44
  go_wp2_with fail
  refine key.mono ?_
  rintro e w1 ⟨hg, ⟨hv, rfl⟩ | ⟨hv, P, nv, rfl, ⟨⟨a, c, rfl⟩, _⟩, hs, _⟩⟩
  · have HV := Lib.hid hv
    clear hv
    go_wp2_with fail
    go_ret
    exact ⟨ret_b (by rw [HV.out]), ((Gw.refl w).alloc _).trans hg⟩
  · have h0 := size_pos hv
    have h2 := size_le t.ty
    have hp : 0 < P.length := by omega
    have hp2 : P.length ≤ 16 := by omega
    have HV := Lib.hid hv
    clear hv hs
    go_wp2_with fail
    go_ret
    exact ⟨ret_b (by rw [HV.out]), ((Gw.refl w).alloc _).trans hg⟩

set_option maxRecDepth 100000 in
theorem open_type {H : Type} {enc : TypeId × Value → H} {W : World} {r : Reach} {b0 : Nat} {v : Value} {d : DataW H} {p : List MemPlace}
    (hval : Value.okWide Try.prog W r b0 24 v) (h : DataW.Trod enc Try.prog W 0 (fun _ => true) true 24 v d p) : ∃ u : LT, v = u.val ∧ u.Ok W := by
  obtain ⟨cs, rfl, hsz⟩ := okWide_struct Try.underlying24 hval
  obtain ⟨fuel, hf⟩ := h
  obtain ⟨u, hu, hok⟩ := lt_of_trod (kk := 2) (kn := 9) (ks := 22) Try.underlying24 rfl rfl rfl rfl rfl rfl Try.underlying2 Try.underlying9 Try.underlying22 (by kernel_rfl) (by kernel_rfl) (by kernel_rfl) (by kernel_rfl) fuel _ _ hf
  refine ⟨u, ?_, hok⟩
  have : cs.toList = [.int .i64 u.k, .string u.n, .slice u.a u.ks.length u.cap] := hu
  obtain ⟨l⟩ := cs
  simp at this
  subst this
  rfl

end Go.Proofs.Ytbbldkhlclfmkaa.Con
