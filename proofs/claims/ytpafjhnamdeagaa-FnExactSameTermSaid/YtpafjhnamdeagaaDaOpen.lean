/-
  An argument that is a list of declarations, opened. No condition.
-/
import Derived.Test.YtpafjhnamdeagaaDa
namespace Go.Proofs.Ytpafjhnamdeagaa.Con
open Go.RowKit Go.ChangeShapes Go.WideShapes Go.ChangeAt Go.Deep
set_option linter.unusedVariables false

def tc (u : LT) : List Value := [.int .i64 u.k, .string u.n, .slice u.a u.ks.length u.cap]
def nc {α : Type} (d : LN α) : List Value := [.string d.n, .slice d.a d.xs.length d.cap]

theorem slOk_of {W : World} {a : Option Addr} {cap : Nat} {xs : List LT} (h1 : xs.length ≤ cap) (h2 : cap ≤ maxLen) (h3 : xs = [] ∨ ∃ b o, a = some ⟨b, o, none⟩ ∧ ∀ i (h : i < xs.length), (∀ j v, (tc xs[i])[j]? = some v → W.cell? ⟨b, o + i * 3 + j, none⟩ = some v) ∧ xs[i].Ok W) : slOk W a cap xs := by
  refine ⟨h1, h2, h3.imp id fun ⟨b, o, e, h⟩ => ⟨b, o, e, rowOk_mk fun i hi => ?_⟩⟩
  obtain ⟨h4, h5⟩ := h i hi
  have q0 := h4 0 _ rfl
  have q1 := h4 1 _ rfl
  have q2 := h4 2 _ rfl
  rw [Nat.mul_comm 3 i]
  exact ⟨q0, q1, q2, h5⟩
theorem nsl_of {α : Type} {ok : World → LN α → Prop} {W : World} {a : Option Addr} {cap : Nat} {xs : List (LN α)} (h1 : xs.length ≤ cap) (h2 : cap ≤ maxLen) (h3 : xs = [] ∨ ∃ b o, a = some ⟨b, o, none⟩ ∧ ∀ i (h : i < xs.length), (∀ j v, (nc xs[i])[j]? = some v → W.cell? ⟨b, o + i * 2 + j, none⟩ = some v) ∧ ok W xs[i]) : nsl ok W a cap xs := by
  refine ⟨h1, h2, h3.imp id fun ⟨b, o, e, h⟩ => ⟨b, o, e, fun i hi => ?_⟩⟩
  obtain ⟨h4, h5⟩ := h i hi
  exact ⟨h4 0 _ rfl, h4 1 _ rfl, h5⟩

set_option maxRecDepth 100000 in
theorem open_datas {H : Type} {enc : TypeId × Value → H} {W : World} {r : Reach} {b0 : Nat} {v : Value} {d : DataW H} {p : List MemPlace}
    (hval : Value.okWide Try.prog W r b0 39 v) (h : DataW.Trod enc Try.prog W 0 (fun _ => true) true 39 v d p) : ∃ (a : Option Addr) (c : Nat) (l : List LD), v = .slice a l.length c ∧ dsOk W a c l := by
  obtain ⟨a0, l0, c0, rfl⟩ := okWide_slice Try.underlying39 hval
  obtain ⟨fuel, hf⟩ := h
  have hT : ∀ fuel (vs : List Value) (x : DataW H × List MemPlace), DataW.trod enc Try.prog W 0 (fun _ => true) true fuel 24 vs = some x → ∃ u : LT, vs = tc u ∧ u.Ok W := fun fuel vs x hx =>
    lt_of_trod (kk := 2) (kn := 9) (ks := 22) Try.underlying24 rfl rfl rfl rfl rfl rfl Try.underlying2 Try.underlying9 Try.underlying22 (by kernel_rfl) (by kernel_rfl) (by kernel_rfl) (by kernel_rfl) fuel vs x hx
  have hC : ∀ fuel (vs : List Value) (x : DataW H × List MemPlace), DataW.trod enc Try.prog W 0 (fun _ => true) true fuel 157 vs = some x → ∃ u : LC, vs = nc u ∧ cOk W u := fun fuel vs x hx => by
    obtain ⟨u, h1, h2, h3, h4, h5⟩ := ln_of_trod (k := 3) (kn := 9) (ts := 22) tc (fun u => u.Ok W) (by decide) (fun _ => rfl) Try.underlying157 rfl rfl rfl rfl Try.underlying9 Try.underlying22 (by kernel_rfl) (by kernel_rfl) (by kernel_rfl) (by kernel_rfl) fuel (fun m _ => hT m) vs x hx
    exact ⟨u, h1, h2, slOk_of h3 h4 h5⟩
  have hD : ∀ fuel (vs : List Value) (x : DataW H × List MemPlace), DataW.trod enc Try.prog W 0 (fun _ => true) true fuel 111 vs = some x → ∃ u : LD, vs = nc u ∧ dOk W u := fun fuel vs x hx => by
    obtain ⟨u, h1, h2, h3, h4, h5⟩ := ln_of_trod (k := 2) (kn := 9) (ts := 109) nc (fun u => cOk W u) (by decide) (fun _ => rfl) Try.underlying111 rfl rfl rfl rfl Try.underlying9 Try.underlying109 (by kernel_rfl) (by kernel_rfl) (by kernel_rfl) (by kernel_rfl) fuel (fun m _ => hC m) vs x hx
    exact ⟨u, h1, h2, nsl_of h3 h4 h5⟩
  obtain ⟨a, cap, xs, h1, h2, h3, h4⟩ := sl_of_trod (k := 2) nc (fun u => dOk W u) (by decide) (fun _ => rfl) Try.underlying39 (by kernel_rfl) fuel (fun m _ => hD m) (.slice a0 l0 c0) _ (by simpa [Value.cells] using hf)
  exact ⟨a, cap, xs, h1, nsl_of h2 h3 h4⟩

end Go.Proofs.Ytpafjhnamdeagaa.Con
