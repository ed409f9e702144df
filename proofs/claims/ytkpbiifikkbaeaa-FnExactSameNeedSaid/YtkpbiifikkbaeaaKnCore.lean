/-
  Contracts of the program's coreComparer and SameCore. Condition: both core terms lie in blocks of cells.
-/
import Derived.Test.YtkpbiifikkbaeaaKcCore
import Derived.Test.YtkpbiifikkbaeaaCoSm
import Derived.Laws.EntriesVeiled
namespace Go.Proofs.Ytkpbiifikkbaeaa.Con.KCore
open Go.RowKit Go.Proofs.Ytkpbiifikkbaeaa.Con
set_option linter.unusedVariables false

/-- What is around a comparer of core terms: its boxes, and the comparer of lists of numbers in its own. -/
def Env (k k' : Kb) (w : World) : Prop := TCaps k w ∧ w.heap[k.CD]? = some (.cells #[.func (.func 41) #[] #[.pointer (some ⟨k'.CM, 0, none⟩), .pointer (some ⟨k'.CS, 0, none⟩)]] 55 (0, 0)) ∧ KNum.LCaps k' w ∧ KNum.Mp w k'.M (fun _ => False)
def Tn (k k' : Kb) : Nat → Prop := fun b => b = k.M ∨ b = k'.M
theorem Env.cells {k k' : Kb} {w w' : World} (h : Env k k' w) (hk : ∀ c, Free w c → w'.heap[c]? = w.heap[c]?) (h2 : KNum.Mp w' k'.M (fun _ => False)) : Env k k' w' :=
  ⟨h.1.keep hk, (hk _ ⟨_, _, h.2.1⟩).trans h.2.1, h.2.2.1.keep hk, h2⟩
theorem Env.gw {k k' : Kb} {w w' : World} (h : Env k k' w) (g : Gw w w') : Env k k' w' := h.cells (free_gw g) (KMp.gw nFr h.2.2.2 g)
theorem esr (k k' : Kb) (hM : k.M ≠ k'.M) : Srr k.M (Env k k') (Tn k k') where
  own := .inl rfl
  gw := fun h g => h.gw g
  isMap := fun h hb => by
    rcases hb with hb | hb
    · exact .inl hb
    · obtain ⟨es, cl, hm, _⟩ := h.2.2.2
      exact .inr ⟨es, cl, by rw [hb]; exact hm⟩
  put := fun h hc hk => by
    refine h.cells hk ?_
    obtain ⟨es, cl, hm, hE⟩ := h.2.2.2
    exact KMp.stays nFr ⟨es, cl, hm, hE⟩ (hc.2.2.2.2 _ (Array.getElem?_eq_some_iff.1 hm).1 (fun e => hM e.symm)) hk

def NodePost (k k' : Kb) (w : World) (S : Value → Prop) (x y : LK) (e : Ending) (w' : World) : Prop := ∃ r : Bool, e = .returned (.bool r) ∧ (r = true ↔ nodeEq x y) ∧ Chg w w' (Tn k k') ∧ (r = true → Env k k' w' ∧ Mp w' k.M S)
theorem node_false {w w' : World} {k k' : Kb} {S : Value → Prop} {x y : LK} (h : ¬ nodeEq x y) (hc : Chg w w' (Tn k k')) : NodePost k k' w S x y (.returned (.bool false)) w' := ⟨false, rfl, by simp [h], hc, fun h => by cases h⟩

set_option maxRecDepth 100000 in
set_option maxHeartbeats 1000000 in
theorem impl_node (k k' : Kb) (hM : k.M ≠ k'.M) (x y : LK) (w : World) (S : Value → Prop) (hx : FOk w x) (hy : FOk w y) (henv : Env k k' w) (hmp : Mp w k.M S) : Calls Try.prog 39 #[x.val, y.val, .pointer (some ⟨k.CD, 0, none⟩)] w (NodePost k k' w S x y) := by
  have gA : Gw w ((w.alloc (.cells #[.int .i64 x.k, .int .i64 x.v, .slice x.da x.ds.length x.dc, .slice x.a x.ks.length x.cap] 36)).alloc (.cells #[.int .i64 y.k, .int .i64 y.v, .slice y.da y.ds.length y.dc, .slice y.a y.ks.length y.cap] 36)) := ((Gw.refl w).alloc _).alloc _
  have b1 := (BoxK.new w x 36).grow ((Gw.refl _).alloc (.cells #[.int .i64 y.k, .int .i64 y.v, .slice y.da y.ds.length y.dc, .slice y.a y.ks.length y.cap] 36))
  have b2 := BoxK.new (w.alloc (.cells #[.int .i64 x.k, .int .i64 x.v, .slice x.da x.ds.length x.dc, .slice x.a x.ks.length x.cap] 36)) y 36
  rw [World.size_alloc] at b2
  have FX := Lib.hid (hx.keep (free_gw gA))
  have FY := Lib.hid (hy.keep (free_gw gA))
  have EN := Lib.hid (henv.gw gA)
  have MP := Lib.hid (KMp.gw coFr hmp gA)
  have HC := Lib.hid (Chg.of_gw gA (Tn k k'))
  clear hx hy henv hmp gA
  go_enter Try.func39, Try.ntmps39
  go_upto_region 1 with (fail)
  generalize ((w.alloc (.cells #[.int .i64 x.k, .int .i64 x.v, .slice x.da x.ds.length x.dc, .slice x.a x.ks.length x.cap] 36)).alloc (.cells #[.int .i64 y.k, .int .i64 y.v, .slice y.da y.ds.length y.dc, .slice y.a y.ks.length y.cap] 36)) = W1 at *
  obtain ⟨p0, p1, p2, p3⟩ := b1.c
  obtain ⟨q0, q1, q2, q3⟩ := b2.c
  by_cases h1 : x.k = y.k
  rotate_left
  · have d1 : (x.k == y.k) = false := by simpa using h1
    have F := Lib.hid (show ¬ nodeEq x y from fun e => h1 e.1)
    clear h1
    go_wp2_with fail
    go_ret
    exact node_false F.out HC.out
  have d1 : (x.k == y.k) = true := by simpa using h1
  have H1 := Lib.hid h1
  clear h1
  by_cases h2 : x.v = y.v
  rotate_left
  · have d2 : (x.v == y.v) = false := by simpa using h2
    have F := Lib.hid (show ¬ nodeEq x y from fun e => h2 e.2.1)
    clear h2
    go_wp2_with fail
    go_ret
    exact node_false F.out HC.out
  have d2 : (x.v == y.v) = true := by simpa using h2
  have H2 := Lib.hid h2
  clear h2
  have f0 : W1.cell? ⟨k.CD, 0, none⟩ = some (.func (.func 41) #[] #[.pointer (some ⟨k'.CM, 0, none⟩), .pointer (some ⟨k'.CS, 0, none⟩)]) := cell_of_row _ _ 0 _ _ _ EN.out.2.1
  go_wp2_with fail
  refine (KNum.list_all k' x.ds y.ds _ x.da y.da x.dc y.dc FX.out.nf FY.out.nf EN.out.2.2.1 EN.out.2.2.2).mono ?_
  rintro e w3 ⟨r, rfl, hr, hc, hm⟩
  have C3 := Lib.hid (HC.out.trans (hc.mono (fun b hb => Or.inr hb : ∀ b, b = k'.M → Tn k k' b)) (fun _ _ h => h))
  clear p0 p1 p2 p3 q0 q1 q2 q3 f0 b1 b2
  cases r with
  | false =>
    have F := Lib.hid (show ¬ nodeEq x y from fun e => by have := hr.2 e.2.2; cases this)
    clear hr hm hc
    go_wp2_with fail
    go_ret
    exact node_false F.out C3.out
  | true =>
    have F := Lib.hid (show nodeEq x y from ⟨H1.out, H2.out, hr.1 rfl⟩)
    have E3 := Lib.hid (show Env k k' w3 ∧ Mp w3 k.M S by
      have hk := Srr.free (KNum.nsr k') EN.out.2.2.1 EN.out.2.2.2 hc
      refine ⟨EN.out.cells hk (hm rfl).2, ?_⟩
      obtain ⟨es, cl, hm', hE⟩ := MP.out
      exact KMp.stays coFr ⟨es, cl, hm', hE⟩ (hc.2.2.2.2 _ (Array.getElem?_eq_some_iff.1 hm').1 hM) hk)
    clear hr hm hc
    go_wp2_with fail
    go_ret
    exact ⟨true, rfl, by simp [F.out], C3.out, fun _ => E3.out⟩

theorem enode (k k' : Kb) (hM : k.M ≠ k'.M) : NodeC k (Env k k') (Tn k k') where
  yes := fun x y w S hx hy hI hm hn => (impl_node k k' hM x y w S hx hy hI hm).mono fun e w' ⟨r, he, hr, hc, h⟩ => by
    obtain rfl : r = true := hr.2 hn
    exact ⟨he, hc, h rfl⟩
  no := fun x y w S hx hy hI hm hn => (impl_node k k' hM x y w S hx hy hI hm).mono fun e w' ⟨r, he, hr, hc, _⟩ => by
    obtain rfl : r = false := by cases r with | false => rfl | true => exact absurd (hr.1 rfl) hn
    exact ⟨he, hc⟩
theorem cmp_all (k k' : Kb) (hM : k.M ≠ k'.M) (x : LK) : CmpC k (Env k k') (Tn k k') x := cmp_ind k _ _ (esr k k' hM) (fun _ h => h.1) (enode k k' hM) x

/-- A comparer of core terms with its surroundings. -/
def CmPost (w : World) (e : Ending) (w' : World) : Prop := ∃ k k' : Kb, e = .returned (.func (.func 50) #[] #[.pointer (some ⟨k.CN, 0, none⟩), .pointer (some ⟨k.CL, 0, none⟩), .pointer (some ⟨k.CK, 0, none⟩)]) ∧ Env k k' w' ∧ Mp w' k.M (fun _ => False) ∧ Gw w w' ∧ w.heap.size ≤ k'.M ∧ k'.M < k.M
set_option maxHeartbeats 1000000 in
theorem impl_cmc (w : World) : Calls Try.prog 16 #[] w (CmPost w) := by
  have KEY := Lib.hid (KNum.impl_lc ⟨0, 0, 0, 0, 0, 0, 0⟩ w)
  go_enter Try.func16, Try.ntmps16
  go_wp2_with fail
  refine KEY.out.mono ?_
  rintro e w1 ⟨M, CM, CS, rfl, hcap, hmp, g1, hM⟩
  obtain ⟨k', hk'⟩ : ∃ k' : Kb, k' = { (⟨0, 0, 0, 0, 0, 0, 0⟩ : Kb) with M := M, CM := CM, CS := CS } := ⟨_, rfl⟩
  have e1 : M = k'.M := by rw [hk']
  have e2 : CM = k'.CM := by rw [hk']
  have e3 : CS = k'.CS := by rw [hk']
  rw [← hk'] at hcap
  subst e1 e2 e3
  clear hk'
  have gA := (Gw.refl w1).alloc (.cells #[.func (.func 41) #[] #[.pointer (some ⟨k'.CM, 0, none⟩), .pointer (some ⟨k'.CS, 0, none⟩)]] 55)
  have hS := heap_alloc_new w1 (.cells #[.func (.func 41) #[] #[.pointer (some ⟨k'.CM, 0, none⟩), .pointer (some ⟨k'.CS, 0, none⟩)]] 55)
  have KEY2 := Lib.hid (impl_tree w1.heap.size (w1.alloc (.cells #[.func (.func 41) #[] #[.pointer (some ⟨k'.CM, 0, none⟩), .pointer (some ⟨k'.CS, 0, none⟩)]] 55)))
  have HS := Lib.hid hS
  have GA := Lib.hid (g1.trans gA)
  have HC := Lib.hid (hcap.keep (KNum.free_gw gA))
  have HM := Lib.hid (KMp.gw nFr (S := fun _ => False) ⟨_, _, hmp, fun e he => by simp at he⟩ gA : KNum.Mp _ k'.M (fun _ => False))
  have HLT := Lib.hid (show k'.M < (w1.alloc (.cells #[.func (.func 41) #[] #[.pointer (some ⟨k'.CM, 0, none⟩), .pointer (some ⟨k'.CS, 0, none⟩)]] 55)).heap.size from Nat.lt_of_lt_of_le (Array.getElem?_eq_some_iff.1 hmp).1 gA.size)
  have HMM := Lib.hid hM
  clear hcap hmp gA hS g1 hM KEY
  go_wp2_with fail
  refine KEY2.out.mono ?_
  rintro e w3 ⟨k, hCD, rfl, htc, hmq, g3, hM⟩
  have F := Lib.hid (show Env k k' w3 from ⟨htc, by rw [hCD]; exact (g3.block _ (Array.getElem?_eq_some_iff.1 HS.out).1).trans HS.out, HC.out.keep (KNum.free_gw g3), KMp.gw nFr HM.out g3⟩)
  have MP := Lib.hid hmq
  have G := Lib.hid (GA.out.trans g3)
  have HM3 := Lib.hid (show k'.M < k.M from Nat.lt_of_lt_of_le HLT.out hM)
  clear htc hmq g3 hM hCD KEY2
  go_wp2_with fail
  go_ret
  exact ⟨k, k', rfl, F.out, MP.out, G.out, HMM.out, HM3.out⟩

end Go.Proofs.Ytkpbiifikkbaeaa.Con.KCore
