/-
  Proved: for every type the law FnExactTypeText returns true and leaves its argument as it was. No condition.
-/
import Derived.Test.YtdlbhjkkgiaidaaTyTxtI
import Derived.Test.YtdlbhjkkgiaidaaTyEq
import Derived.Test.YtdlbhjkkgiaidaaTySz
import Derived.Deep.RegionHeld3
namespace Go.Proofs.Ytdlbhjkkgiaidaa.fnExactTypeText
open Go.ChangeShapes Go.WideShapes Go.ChangeAt Go.RowKit Con
set_option linter.unusedVariables false
theorem own : ownKnob Try.prog.godebug = none := by kernel_rfl
theorem laidOut : laidOutB Try.prog = true := by kernel_rfl

set_option maxHeartbeats 4000000 in
theorem walk (w : World) (a0 : LT) (w0 : a0.Ok w) :
    Calls Try.prog 6 #[a0.val] w fun e w' => e = .returned (.bool true) ∧ Gw w w' := by
  have ob : a0.Ok (w.alloc (.cells #[.int .i64 a0.k, .string a0.n, .slice a0.a a0.ks.length a0.cap] 24)) := w0.grow ((Below.refl _ _).alloc (Nat.le_refl _) _)
  have g0 : Gw w (w.alloc (.cells #[.int .i64 a0.k, .string a0.n, .slice a0.a a0.ks.length a0.cap] 24)) := (Gw.refl w).alloc _
  by_cases hsz : 1048576 < a0.sz
  · have HS := Lib.hid (show szR 1048576 a0.sz = -1 from if_neg (by omega))
    go_enter Try.func6, Try.ntmps6
    go_wp2_with fail
    refine (laws_szType a0 _ _ ob (by omega) (by omega)).mono ?_
    rintro e w1 ⟨he, g1⟩
    rw [HS.out] at he
    subst he
    go_wp2_with fail
    go_ret
    exact ⟨rfl, g0.trans g1⟩
  · have HS := Lib.hid (show szR 1048576 a0.sz = 1048576 - a0.sz from if_pos (by omega))
    go_enter Try.func6, Try.ntmps6
    go_wp2_with fail
    refine (laws_szType a0 _ _ ob (by omega) (by omega)).mono ?_
    rintro e w1 ⟨he, g1⟩
    rw [HS.out] at he
    subst he
    have hp : (0 : Int) ≤ 1048576 - a0.sz := by omega
    obtain ⟨hc1, hf1⟩ := bcell g1
    have o1 := ob.grow g1
    have G1 := g0.trans g1
    go_wp2_with fail
    refine (laws_toType a0 _ o1 (by omega)).mono ?_
    rintro e w2 ⟨x, rfl, hx, nx, g2⟩
    have HX := Lib.hid hx
    clear hx
    have G2 := G1.trans g2
    have o2 := o1.grow g2
    go_wp2_with fail
    refine (spec_typeText x _ nx.1).mono ?_
    rintro e w3 ⟨rfl, g3⟩
    rw [HX.out]
    have G3 := G2.trans g3
    have o3 := o2.grow g3
    obtain ⟨hc3, hf3⟩ := bcell ((g1.trans g2).trans g3)
    clear hc1 hf1
    go_wp2_with fail
    refine (laws_toType a0 _ o3 (by omega)).mono ?_
    rintro e w4 ⟨y, rfl, hy, ny, g4⟩
    have HY := Lib.hid hy
    clear hy hc3 hf3
    have G4 := G3.trans g4
    have gB4 := ((g1.trans g2).trans g3).trans g4
    go_wp2_with fail
    have oy : y.Ok (w4.alloc (.cells #[.int .i64 y.k, .string y.n, .slice y.a y.ks.length y.cap] 29)) := ny.1.grow ((Below.refl _ _).alloc (Nat.le_refl _) _)
    refine (impl_typeText y _ oy).mono ?_
    rw [HY.out]
    rintro e w5 ⟨rfl, g5⟩
    have hw4 : w.heap.size < w4.heap.size := by have := gB4.size; simp at this; omega
    have hl5 : w4.heap.size < w5.heap.size := by have := g5.size; simp at this; omega
    obtain ⟨k5, _⟩ := bcell g5
    obtain ⟨k4, _⟩ := bcell gB4
    have q0 : w5.cell? ⟨w4.heap.size, 0, none⟩ = some (.int .i64 y.k) := by rw [k5 _ _ (by simp)]; simp
    have q1 : w5.cell? ⟨w4.heap.size, 1, none⟩ = some (.string y.n) := by rw [k5 _ _ (by simp)]; simp
    have q2 : w5.cell? ⟨w4.heap.size, 2, none⟩ = some (.slice y.a y.ks.length y.cap) := by rw [k5 _ _ (by simp)]; simp
    have p0 : w5.cell? ⟨w.heap.size, 0, none⟩ = some (.int .i64 a0.k) := by rw [k5 _ _ (by simp; omega), World.cell?_alloc_lt _ _ _ hw4, k4 _ _ (by simp)]; simp
    have p1 : w5.cell? ⟨w.heap.size, 1, none⟩ = some (.string a0.n) := by rw [k5 _ _ (by simp; omega), World.cell?_alloc_lt _ _ _ hw4, k4 _ _ (by simp)]; simp
    have p2 : w5.cell? ⟨w.heap.size, 2, none⟩ = some (.slice a0.a a0.ks.length a0.cap) := by rw [k5 _ _ (by simp; omega), World.cell?_alloc_lt _ _ _ hw4, k4 _ _ (by simp)]; simp
    have G5 := (G4.alloc (.cells #[.int .i64 y.k, .string y.n, .slice y.a y.ks.length y.cap] 29)).trans g5
    have o5 := w0.grow G5
    have oy5 := oy.grow g5
    have hw5 : w.heap.size < w5.heap.size := by omega
    clear k5 k4 oy
    go_wp2_with fail
    go_region_held3 (fun W => W.cell? ⟨w4.heap.size, 0, none⟩ = some (.int .i64 y.k) ∧ W.cell? ⟨w4.heap.size, 1, none⟩ = some (.string y.n) ∧ W.cell? ⟨w4.heap.size, 2, none⟩ = some (.slice y.a y.ks.length y.cap) ∧ W.cell? ⟨w.heap.size, 0, none⟩ = some (.int .i64 a0.k) ∧ W.cell? ⟨w.heap.size, 1, none⟩ = some (.string a0.n) ∧ W.cell? ⟨w.heap.size, 2, none⟩ = some (.slice a0.a a0.ks.length a0.cap))
      (first | exact ⟨q0, q1, q2, p0, p1, p2⟩ | exact ⟨(k6 _ _ hl5).trans q0, (k6 _ _ hl5).trans q1, (k6 _ _ hl5).trans q2, (k6 _ _ hw5).trans p0, (k6 _ _ hw5).trans p1, (k6 _ _ hw5).trans p2⟩ | exact ⟨(k7 _ _ hl5).trans q0, (k7 _ _ hl5).trans q1, (k7 _ _ hl5).trans q2, (k7 _ _ hw5).trans p0, (k7 _ _ hw5).trans p1, (k7 _ _ hw5).trans p2⟩)
      (first
        | (go_at_call 17; refine (laws_toType a0 _ (by exact o5.drew) (by omega)).mono ?_; rintro e w6 ⟨z, rfl, hz, nz, g6⟩; have HZ := Lib.hid hz; clear hz; have k6 : ∀ b o, b < w5.heap.size → w6.cell? ⟨b, o, none⟩ = w5.cell? ⟨b, o, none⟩ := fun b o h => (bcell g6).1 b o h)
        | (go_at_call 19; refine (laws_eqType y z _ (by exact oy5.drew.grow g6) nz.1 (by rw [HY.out, HZ.out])).mono ?_; rintro e w7 ⟨rfl, g7⟩; have k7 : ∀ b o, b < w5.heap.size → w7.cell? ⟨b, o, none⟩ = w5.cell? ⟨b, o, none⟩ := fun b o h => ((bcell g7).1 b o (Nat.lt_of_lt_of_le h g6.size)).trans (k6 b o h)))
    go_wp2_with fail
    go_ret
    exact ⟨rfl, (G5.drew.trans g6).trans g7⟩

set_option maxRecDepth 100000 in
theorem lifted (os : Os) (started : os.Started) (H : Type) (enc : TypeId × Value → H) :
    ReturnsInHanded {} Try.checked os 6 .any (Rows.fnExactTypeTextSpec.pre6 enc Try.prog Try.f6 Rows.fnExactTypeTextRow.domain false) (Rows.fnExactTypeTextSpec.post enc Try.prog Try.f6 false true false false) := by
  refine returnsInHanded_of_change (C := Try.checked) own started (by kernel_rfl) Try.func6
    (ChangeSpec.witness6 (enc := enc) (C := Try.checked) false ⟨#[], #[.agg #[.int .i64 0, .string ⟨#[]⟩, .slice none 0 0]], []⟩ 8 (by kernel_rfl) (by kernel_rfl) (by kernel_rfl) (by kernel_rfl)) ?_
  intro W base args ds gs before hval0 hW _ _
  have hval : ∀ (j : Nat) t v, Try.f6.params[j]? = some t → args[j]? = some v → Value.okWide Try.prog W .any base t v := hval0
  have hW' := hW
  obtain ⟨p, q, hA0, hV0, rfl, hfz, hnd⟩ := hW
  have hA : DataW.TrodAll enc Try.prog W 0 (fun _ => true) true Try.f6.params.toList args.toList ds p := hA0
  rw [Try.params6] at hA hval
  obtain ⟨v0, vs0, d0, ds0, p0, q0, hargs, rfl, rfl, h0, r0⟩ := trodAll_cons hA
  obtain ⟨rfl, rfl, rfl⟩ := trodAll_nil r0
  obtain rfl : args = #[v0] := by cases args; simp_all
  obtain ⟨a0, rfl, w0⟩ := open_type (hval 0 24 v0 rfl rfl) h0
  obtain ⟨rfl, rfl⟩ := trodVars_none hV0
  refine (walk W a0 w0).mono fun e W' ⟨he, hg⟩ => ?_
  subst he
  exact ⟨_, rfl, post_law laidOut (by kernel_rfl) (by kernel_rfl) rfl Try.underlying4 hW' hg rfl⟩

theorem proved : Rows.FnExactTypeTextSaid :=
  OpenClaim.holds_of_wide 6 Try.f6 rfl rfl rfl rfl rfl rfl rfl ⟨rfl, rfl, rfl, rfl, rfl⟩ rfl rfl rfl rfl rfl (by kernel_rfl) Try.func6 (by kernel_rfl)
    (of_decide_eq_true (by kernel_rfl)) (by unfold Func.isWrapper; first | (rw [if_pos (by decide +kernel)]; kernel_rfl) | (rw [if_neg (by decide +kernel)]; exact ⟨rfl, rfl⟩))
    (fun os started H enc _ => lifted os started H enc)
#print axioms proved
end Go.Proofs.Ytdlbhjkkgiaidaa.fnExactTypeText
