/-
  An argument that is a term, opened. No condition.
-/
import Derived.Test.YtpafjhnamdeagaaTm
namespace Go.Proofs.Ytpafjhnamdeagaa.Con
open Go.RowKit Go.ChangeShapes Go.WideShapes Go.ChangeAt Go.Deep
set_option linter.unusedVariables false

theorem lm_of_trod {H : Type} {enc : TypeId × Value → H} {P : Program} {W : World} {t ks kn kk kt kns : TypeId} {f0 f1 f2 f3 f4 f5 : Field}
    (ht : P.underlying t = some (.struct #[f0, f1, f2, f3, f4, f5])) (h0 : f0.type = kk) (h1 : f1.type = kk) (h2 : f2.type = kn) (h3 : f3.type = kt) (h4 : f4.type = kns) (h5 : f5.type = ks)
    (o0 : f0.offset = 0) (o1 : f1.offset = 1) (o2 : f2.offset = 2) (o3 : f3.offset = 3) (o4 : f4.offset = 6) (o5 : f5.offset = 7)
    (uk : P.underlying kk = some (.int .i64)) (un : P.underlying kn = some .string) (uns : P.underlying kns = some (.slice kn)) (us : P.underlying ks = some (.slice t))
    (ck : P.cellsOf kk = 1) (cn : P.cellsOf kn = 1) (ckt : P.cellsOf kt = 3) (cns : P.cellsOf kns = 1) (cs : P.cellsOf ks = 1) (ct : P.cellsOf t = 8)
    (hT : ∀ (fuel : Nat) (vs : List Value) (x : DataW H × List MemPlace), DataW.trod enc P W 0 (fun _ => true) true fuel kt vs = some x → ∃ u : LT, vs = tc u ∧ u.Ok W) :
    ∀ (fuel : Nat) (vs : List Value) (x : DataW H × List MemPlace), DataW.trod enc P W 0 (fun _ => true) true fuel t vs = some x → ∃ u : LM, vs = tmE u ∧ u.Ok W := by
  intro fuel
  induction fuel using Nat.strongRecOn with
  | _ fuel ih =>
  intro vs x h
  obtain ⟨xs, m, hm, hx, hl, hlen, hf⟩ := DataW.trod_struct ht h
  match xs, hlen with
  | [y0, y1, y2, y3, y4, y5], _ =>
  have g0 := hf 0 f0 rfl
  have g1 := hf 1 f1 rfl
  have g2 := hf 2 f2 rfl
  have g3 := hf 3 f3 rfl
  have g4 := hf 4 f4 rfl
  have g5 := hf 5 f5 rfl
  rw [h0, o0, ck] at g0
  rw [h1, o1, ck] at g1
  rw [h2, o2, cn] at g2
  rw [h3, o3, ckt] at g3
  rw [h4, o4, cns] at g4
  rw [h5, o5, cs] at g5
  rw [ct] at hl
  match vs, hl with
  | [v0, v1, v2, v3, v4, v5, v6, v7], _ =>
  simp only [List.drop_zero, List.take_succ_cons, List.take_zero, List.drop_succ_cons, List.getElem?_cons_zero, List.getElem?_cons_succ] at g0 g1 g2 g3 g4 g5
  obtain ⟨k, e0, _, wk⟩ := DataW.trod_int uk g0
  obtain ⟨i, e1, _, wi⟩ := DataW.trod_int uk g1
  obtain ⟨n, e2, _, wn⟩ := DataW.trod_string un g2
  obtain ⟨ty, e3, hty⟩ := hT _ _ _ g3
  obtain rfl : v0 = .int .i64 k := by simpa using e0
  obtain rfl : v1 = .int .i64 i := by simpa using e1
  obtain rfl : v2 = .string n := by simpa using e2
  have hb : in64' k := by unfold in64'; simpa [Lit.wf, IntKind.min, IntKind.max, IntKind.signed, IntKind.bits] using wk
  have hi : in64' i := by unfold in64'; simpa [Lit.wf, IntKind.min, IntKind.max, IntKind.signed, IntKind.bits] using wi
  obtain ⟨na, nc, ns, e6, hns⟩ := sl_of_trod (k := 1) sE (fun s => s.size ≤ maxLen) (by decide) (fun _ => rfl) uns cn m (fun m' _ vs x hx => by
    obtain ⟨s, es, _, ws⟩ := DataW.trod_string un hx
    exact ⟨s, es, ws⟩) v6 _ g4
  obtain ⟨a, cap, us', e7, hus⟩ := sl_of_trod (k := 8) tmE (fun u => u.Ok W) (by decide) (fun _ => rfl) us ct m (fun m' hm' => ih m' (by omega)) v7 _ g5
  refine ⟨.mk k i n ty na nc ns a cap us', ?_, (LM.ok_iff _).2 ⟨⟨hb, hi, wn, hty, hns⟩, hus⟩⟩
  have e3' : v3 = .int .i64 ty.k ∧ v4 = .string ty.n ∧ v5 = .slice ty.a ty.ks.length ty.cap := by simpa [tc] using e3
  obtain ⟨rfl, rfl, rfl⟩ := e3'
  rw [e6, e7]; rfl

set_option maxRecDepth 100000 in
theorem open_term {H : Type} {enc : TypeId × Value → H} {W : World} {r : Reach} {b0 : Nat} {v : Value} {d : DataW H} {p : List MemPlace}
    (hval : Value.okWide Try.prog W r b0 28 v) (h : DataW.Trod enc Try.prog W 0 (fun _ => true) true 28 v d p) : ∃ u : LM, v = u.val ∧ u.Ok W := by
  obtain ⟨cs, rfl, hsz⟩ := okWide_struct Try.underlying28 hval
  obtain ⟨fuel, hf⟩ := h
  have hT : ∀ fuel (vs : List Value) (x : DataW H × List MemPlace), DataW.trod enc Try.prog W 0 (fun _ => true) true fuel 24 vs = some x → ∃ u : LT, vs = tc u ∧ u.Ok W := fun fuel vs x hx =>
    lt_of_trod (kk := 2) (kn := 9) (ks := 22) Try.underlying24 rfl rfl rfl rfl rfl rfl Try.underlying2 Try.underlying9 Try.underlying22 (by kernel_rfl) (by kernel_rfl) (by kernel_rfl) (by kernel_rfl) fuel vs x hx
  obtain ⟨u, hu, ho⟩ := lm_of_trod (kk := 2) (kn := 9) (kt := 24) (kns := 25) (ks := 26) Try.underlying28 rfl rfl rfl rfl rfl rfl rfl rfl rfl rfl rfl rfl Try.underlying2 Try.underlying9 Try.underlying25 Try.underlying26
    (by kernel_rfl) (by kernel_rfl) (by kernel_rfl) (by kernel_rfl) (by kernel_rfl) (by kernel_rfl) hT fuel _ _ hf
  refine ⟨u, ?_, ho⟩
  have : cs.toList = tmE u := hu
  obtain ⟨l⟩ := cs
  simp at this
  subst this
  rfl

end Go.Proofs.Ytpafjhnamdeagaa.Con
