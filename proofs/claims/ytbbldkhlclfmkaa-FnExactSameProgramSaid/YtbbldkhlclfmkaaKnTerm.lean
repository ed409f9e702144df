/-
  Contracts of the program's termComparer and SameTerm. Condition: both terms lie in blocks of cells.
-/
import Derived.Test.YtbbldkhlclfmkaaKcTerm
import Derived.Laws.EntriesVeiled
namespace Go.Proofs.Ytbbldkhlclfmkaa.Con.KTerm
open Go.RowKit Go.Proofs.Ytbbldkhlclfmkaa.Con
set_option linter.unusedVariables false

/-- What is around a comparer of terms: its boxes, and the comparer of types in its own. -/
def Env (k k' : Kb) (w : World) : Prop := TCaps k w ∧ w.heap[k.CD]? = some (.cells #[.func (.func 105) #[] #[.pointer (some ⟨k'.CN, 0, none⟩), .pointer (some ⟨k'.CL, 0, none⟩), .pointer (some ⟨k'.CK, 0, none⟩)]] 26 (0, 0)) ∧ KType.TCaps k' w ∧ KType.Mp w k'.M (fun _ => False)
def Tn (k k' : Kb) : Nat → Prop := fun b => b = k.M ∨ b = k'.M
theorem Env.cells {k k' : Kb} {w w' : World} (h : Env k k' w) (hk : ∀ c, Free w c → w'.heap[c]? = w.heap[c]?) (h2 : KType.Mp w' k'.M (fun _ => False)) : Env k k' w' :=
  ⟨h.1.keep hk, (hk _ ⟨_, _, h.2.1⟩).trans h.2.1, h.2.2.1.keep hk, h2⟩
theorem Env.gw {k k' : Kb} {w w' : World} (h : Env k k' w) (g : Gw w w') : Env k k' w' := h.cells (free_gw g) (KMp.gw KType.tyFr h.2.2.2 g)
theorem esr (k k' : Kb) (hM : k.M ≠ k'.M) : Srr k.M (Env k k') (Tn k k') where
  own := .inl rfl
  gw := fun h g => h.gw g
  isMap := fun h hb => by
    rcases hb with hb | hb
    · exact .inl hb
    · obtain ⟨es, cl, hm, _⟩ := h.2.2.2
      exact .inr ⟨es, cl, by rw [hb]; exact hm⟩
  put := fun h hc hk => by
    refine h.cells hk ?_
    obtain ⟨es, cl, hm, hE⟩ := h.2.2.2
    exact KMp.stays KType.tyFr ⟨es, cl, hm, hE⟩ (hc.2.2.2.2 _ (Array.getElem?_eq_some_iff.1 hm).1 (fun e => hM e.symm)) hk

def NodePost (k k' : Kb) (w : World) (S : Value → Prop) (x y : LM) (e : Ending) (w' : World) : Prop := ∃ r : Bool, e = .returned (.bool r) ∧ (r = true ↔ nodeEq x y) ∧ Chg w w' (Tn k k') ∧ (r = true → Env k k' w' ∧ Mp w' k.M S)
theorem node_false {w w' : World} {k k' : Kb} {S : Value → Prop} {x y : LM} (h : ¬ nodeEq x y) (hc : Chg w w' (Tn k k')) : NodePost k k' w S x y (.returned (.bool false)) w' := ⟨false, rfl, by simp [h], hc, fun h => by cases h⟩

set_option maxRecDepth 100000 in
set_option maxHeartbeats 1000000 in
theorem impl_node (k k' : Kb) (hM : k.M ≠ k'.M) (x y : LM) (w : World) (S : Value → Prop) (hx : FOk w x) (hy : FOk w y) (henv : Env k k' w) (hmp : Mp w k.M S) : Calls Try.prog 89 #[x.val, y.val, .pointer (some ⟨k.CD, 0, none⟩)] w (NodePost k k' w S x y) := by
  have gA : Gw w ((w.alloc (.cells #[.int .i64 x.k, .int .i64 x.m, .string x.n, .int .i64 x.t.k, .string x.t.n, .slice x.t.a x.t.ks.length x.t.cap, .slice x.na x.ns.length x.nc, .slice x.a x.ks.length x.cap] 43)).alloc (.cells #[.int .i64 y.k, .int .i64 y.m, .string y.n, .int .i64 y.t.k, .string y.t.n, .slice y.t.a y.t.ks.length y.t.cap, .slice y.na y.ns.length y.nc, .slice y.a y.ks.length y.cap] 43)) := ((Gw.refl w).alloc _).alloc _
  have b1 := (BoxM.new w x 43).grow ((Gw.refl _).alloc (.cells #[.int .i64 y.k, .int .i64 y.m, .string y.n, .int .i64 y.t.k, .string y.t.n, .slice y.t.a y.t.ks.length y.t.cap, .slice y.na y.ns.length y.nc, .slice y.a y.ks.length y.cap] 43))
  have b2 := BoxM.new (w.alloc (.cells #[.int .i64 x.k, .int .i64 x.m, .string x.n, .int .i64 x.t.k, .string x.t.n, .slice x.t.a x.t.ks.length x.t.cap, .slice x.na x.ns.length x.nc, .slice x.a x.ks.length x.cap] 43)) y 43
  rw [World.size_alloc] at b2
  have FX := Lib.hid (hx.keep (free_gw gA))
  have FY := Lib.hid (hy.keep (free_gw gA))
  have EN := Lib.hid (henv.gw gA)
  have MP := Lib.hid (KMp.gw tmFr hmp gA)
  have HC := Lib.hid (Chg.of_gw gA (Tn k k'))
  clear hx hy henv hmp gA
  go_enter Try.func89, Try.ntmps89
  go_upto_region 1 with (fail)
  generalize ((w.alloc (.cells #[.int .i64 x.k, .int .i64 x.m, .string x.n, .int .i64 x.t.k, .string x.t.n, .slice x.t.a x.t.ks.length x.t.cap, .slice x.na x.ns.length x.nc, .slice x.a x.ks.length x.cap] 43)).alloc (.cells #[.int .i64 y.k, .int .i64 y.m, .string y.n, .int .i64 y.t.k, .string y.t.n, .slice y.t.a y.t.ks.length y.t.cap, .slice y.na y.ns.length y.nc, .slice y.a y.ks.length y.cap] 43)) = W1 at *
  obtain ⟨p0, p1, p2, p3, p4, p5, p6, p7⟩ := b1.c
  obtain ⟨q0, q1, q2, q3, q4, q5, q6, q7⟩ := b2.c
  by_cases h1 : x.k = y.k
  rotate_left
  · have d1 : (x.k == y.k) = false := by simpa using h1
    have F := Lib.hid (show ¬ nodeEq x y from fun e => h1 e.1)
    clear h1
    go_wp2_with fail
    go_ret
    exact node_false F.out HC.out
  have d1 : (x.k == y.k) = true := by simpa using h1
  have H1 := Lib.hid h1
  clear h1
  by_cases h2 : x.m = y.m
  rotate_left
  · have d2 : (x.m == y.m) = false := by simpa using h2
    have F := Lib.hid (show ¬ nodeEq x y from fun e => h2 e.2.1)
    clear h2
    go_wp2_with fail
    go_ret
    exact node_false F.out HC.out
  have d2 : (x.m == y.m) = true := by simpa using h2
  have H2 := Lib.hid h2
  clear h2
  by_cases h3 : x.n = y.n
  rotate_left
  · have d3 := toList_neS h3
    have F := Lib.hid (show ¬ nodeEq x y from fun e => h3 e.2.2.1)
    clear h3
    go_wp2_with fail
    go_ret
    exact node_false F.out HC.out
  have d3 : (x.n.toList == y.n.toList) = true := by rw [h3]; simp
  have H3 := Lib.hid h3
  clear h3
  go_wp2_with fail
  refine (impl_equalS x.ns y.ns _ x.na y.na x.nc y.nc FX.out.1.nms FY.out.1.nms).mono ?_
  rintro e w2 ⟨r, rfl, hr, g2⟩
  replace FX := Lib.hid (FX.out.keep (free_gw g2))
  replace FY := Lib.hid (FY.out.keep (free_gw g2))
  replace EN := Lib.hid (EN.out.gw g2)
  replace MP := Lib.hid (KMp.gw tmFr MP.out g2)
  replace HC := Lib.hid (HC.out.trans (Chg.of_gw g2 (Tn k k')) (fun _ _ h => h))
  replace b1 := b1.grow g2
  replace b2 := b2.grow g2
  clear p0 p1 p2 p3 p4 p5 p6 p7 q0 q1 q2 q3 q4 q5 q6 q7 g2
  cases r with
  | false =>
    have F := Lib.hid (show ¬ nodeEq x y from fun e => by have := hr.2 e.2.2.2.1; cases this)
    clear hr
    go_wp2_with fail
    go_ret
    exact node_false F.out HC.out
  | true =>
  have H4 := Lib.hid (hr.1 rfl)
  clear hr
  obtain ⟨p0, p1, p2, p3, p4, p5, p6, p7⟩ := b1.c
  obtain ⟨q0, q1, q2, q3, q4, q5, q6, q7⟩ := b2.c
  have f0 : w2.cell? ⟨k.CD, 0, none⟩ = some (.func (.func 105) #[] #[.pointer (some ⟨k'.CN, 0, none⟩), .pointer (some ⟨k'.CL, 0, none⟩), .pointer (some ⟨k'.CK, 0, none⟩)]) := cell_of_row _ _ 0 _ _ _ EN.out.2.1
  go_wp2_with fail
  refine (KType.cmp_all k' x.t y.t _ (fun _ => False) FX.out.ty FY.out.ty EN.out.2.2.1 EN.out.2.2.2 (fun v hv => hv.elim)).mono ?_
  rintro e w3 ⟨r, rfl, hr, hc, hm⟩
  have C3 := Lib.hid (HC.out.trans (hc.mono (fun b hb => Or.inr hb : ∀ b, b = k'.M → Tn k k' b)) (fun _ _ h => h))
  clear p0 p1 p2 p3 p4 p5 p6 p7 q0 q1 q2 q3 q4 q5 q6 q7 f0 b1 b2
  cases r with
  | false =>
    have F := Lib.hid (show ¬ nodeEq x y from fun e => by have := hr.2 e.2.2.2.2; cases this)
    clear hr hm hc
    go_wp2_with fail
    go_ret
    exact node_false F.out C3.out
  | true =>
    have F := Lib.hid (show nodeEq x y from ⟨H1.out, H2.out, H3.out, H4.out, hr.1 rfl⟩)
    have E3 := Lib.hid (show Env k k' w3 ∧ Mp w3 k.M S by
      have hk := Srr.free (KType.tsr k') EN.out.2.2.1 EN.out.2.2.2 hc
      refine ⟨EN.out.cells hk (hm rfl).2, ?_⟩
      obtain ⟨es, cl, hm', hE⟩ := MP.out
      exact KMp.stays tmFr ⟨es, cl, hm', hE⟩ (hc.2.2.2.2 _ (Array.getElem?_eq_some_iff.1 hm').1 hM) hk)
    clear hr hm hc
    go_wp2_with fail
    go_ret
    exact ⟨true, rfl, by simp [F.out], C3.out, fun _ => E3.out⟩

theorem enode (k k' : Kb) (hM : k.M ≠ k'.M) : NodeC k (Env k k') (Tn k k') where
  yes := fun x y w S hx hy hI hm hn => (impl_node k k' hM x y w S hx hy hI hm).mono fun e w' ⟨r, he, hr, hc, h⟩ => by
    obtain rfl : r = true := hr.2 hn
    exact ⟨he, hc, h rfl⟩
  no := fun x y w S hx hy hI hm hn => (impl_node k k' hM x y w S hx hy hI hm).mono fun e w' ⟨r, he, hr, hc, _⟩ => by
    obtain rfl : r = false := by cases r with | false => rfl | true => exact absurd (hr.1 rfl) hn
    exact ⟨he, hc⟩
theorem cmp_all (k k' : Kb) (hM : k.M ≠ k'.M) (x : LM) : CmpC k (Env k k') (Tn k k') x := cmp_ind k _ _ (esr k k' hM) (fun _ h => h.1) (enode k k' hM) x

/-- A comparer of terms with its surroundings. -/
def TmPost (k' : Kb) (w : World) (e : Ending) (w' : World) : Prop := ∃ k : Kb, e = .returned (.func (.func 112) #[] #[.pointer (some ⟨k.CN, 0, none⟩), .pointer (some ⟨k.CL, 0, none⟩), .pointer (some ⟨k.CK, 0, none⟩)]) ∧ Env k k' w' ∧ Mp w' k.M (fun _ => False) ∧ Gw w w' ∧ w.heap.size ≤ k.M
theorem impl_tmc (k' : Kb) (w : World) (hc : KType.TCaps k' w) (hm : KType.Mp w k'.M (fun _ => False)) : Calls Try.prog 53 #[.func (.func 105) #[] #[.pointer (some ⟨k'.CN, 0, none⟩), .pointer (some ⟨k'.CL, 0, none⟩), .pointer (some ⟨k'.CK, 0, none⟩)]] w (TmPost k' w) := by
  have gA := (Gw.refl w).alloc (.cells #[.func (.func 105) #[] #[.pointer (some ⟨k'.CN, 0, none⟩), .pointer (some ⟨k'.CL, 0, none⟩), .pointer (some ⟨k'.CK, 0, none⟩)]] 26)
  have hS := heap_alloc_new w (.cells #[.func (.func 105) #[] #[.pointer (some ⟨k'.CN, 0, none⟩), .pointer (some ⟨k'.CL, 0, none⟩), .pointer (some ⟨k'.CK, 0, none⟩)]] 26)
  have KEY := Lib.hid (impl_tree w.heap.size (w.alloc (.cells #[.func (.func 105) #[] #[.pointer (some ⟨k'.CN, 0, none⟩), .pointer (some ⟨k'.CL, 0, none⟩), .pointer (some ⟨k'.CK, 0, none⟩)]] 26)))
  have HS := Lib.hid hS
  have GA := Lib.hid gA
  have HC := Lib.hid (hc.keep (KType.free_gw gA))
  have HM := Lib.hid (KMp.gw KType.tyFr hm gA)
  clear hc hm gA hS
  go_enter Try.func53, Try.ntmps53
  go_wp2_with fail
  refine KEY.out.mono ?_
  rintro e w1 ⟨k, hCD, rfl, htc, hmp, g1, hM⟩
  have F := Lib.hid (show Env k k' w1 from ⟨htc, by rw [hCD]; exact (g1.block _ (Array.getElem?_eq_some_iff.1 HS.out).1).trans HS.out, HC.out.keep (KType.free_gw g1), KMp.gw KType.tyFr HM.out g1⟩)
  have MP := Lib.hid hmp
  have G := Lib.hid (GA.out.trans g1)
  have HMM := Lib.hid (show w.heap.size ≤ k.M from Nat.le_trans GA.out.size hM)
  clear htc hmp g1 hM hCD
  go_wp2_with fail
  go_ret
  exact ⟨k, rfl, F.out, MP.out, G.out, HMM.out⟩

theorem FOk.new {B : Nat} {w : World} {t : LM} (h : t.New B w) : FOk w t := ⟨h.1, fun c hc => (h.2.2 c hc).2⟩

set_option maxRecDepth 100000 in
set_option maxHeartbeats 1000000 in
theorem impl_same (t u : LM) (B B' : Nat) (w : World) (ht : t.New B w) (hu : u.New B' w) : Calls Try.prog 21 #[t.val, u.val] w (SameM t u w) := by
  have gA : Gw w ((w.alloc (.cells #[.int .i64 t.k, .int .i64 t.m, .string t.n, .int .i64 t.t.k, .string t.t.n, .slice t.t.a t.t.ks.length t.t.cap, .slice t.na t.ns.length t.nc, .slice t.a t.ks.length t.cap] 43)).alloc (.cells #[.int .i64 u.k, .int .i64 u.m, .string u.n, .int .i64 u.t.k, .string u.t.n, .slice u.t.a u.t.ks.length u.t.cap, .slice u.na u.ns.length u.nc, .slice u.a u.ks.length u.cap] 43)) := ((Gw.refl w).alloc _).alloc _
  have b1 := (BoxM.new w t 43).grow ((Gw.refl _).alloc (.cells #[.int .i64 u.k, .int .i64 u.m, .string u.n, .int .i64 u.t.k, .string u.t.n, .slice u.t.a u.t.ks.length u.t.cap, .slice u.na u.ns.length u.nc, .slice u.a u.ks.length u.cap] 43))
  have b2 := BoxM.new (w.alloc (.cells #[.int .i64 t.k, .int .i64 t.m, .string t.n, .int .i64 t.t.k, .string t.t.n, .slice t.t.a t.t.ks.length t.t.cap, .slice t.na t.ns.length t.nc, .slice t.a t.ks.length t.cap] 43)) u 43
  rw [World.size_alloc] at b2
  have hk := free_gw gA
  have FX := Lib.hid ((FOk.new ht).keep hk)
  have FY := Lib.hid ((FOk.new hu).keep hk)
  have GA := Lib.hid gA
  clear ht hu hk gA
  go_enter Try.func21, Try.ntmps21
  go_upto_region 1 with (fail)
  generalize ((w.alloc (.cells #[.int .i64 t.k, .int .i64 t.m, .string t.n, .int .i64 t.t.k, .string t.t.n, .slice t.t.a t.t.ks.length t.t.cap, .slice t.na t.ns.length t.nc, .slice t.a t.ks.length t.cap] 43)).alloc (.cells #[.int .i64 u.k, .int .i64 u.m, .string u.n, .int .i64 u.t.k, .string u.t.n, .slice u.t.a u.t.ks.length u.t.cap, .slice u.na u.ns.length u.nc, .slice u.a u.ks.length u.cap] 43)) = W1 at *
  have l1 := b1.lt
  have l2 := b2.lt
  obtain ⟨p0, p1, p2, p3, p4, p5, p6, p7⟩ := b1.c
  obtain ⟨q0, q1, q2, q3, q4, q5, q6, q7⟩ := b2.c
  go_region_held3 (fun W => W.cell? ⟨w.heap.size, 0, none⟩ = some (.int .i64 t.k) ∧ W.cell? ⟨w.heap.size, 1, none⟩ = some (.int .i64 t.m) ∧ W.cell? ⟨w.heap.size, 2, none⟩ = some (.string t.n) ∧ W.cell? ⟨w.heap.size, 3, none⟩ = some (.int .i64 t.t.k) ∧ W.cell? ⟨w.heap.size, 4, none⟩ = some (.string t.t.n) ∧ W.cell? ⟨w.heap.size, 5, none⟩ = some (.slice t.t.a t.t.ks.length t.t.cap) ∧ W.cell? ⟨w.heap.size, 6, none⟩ = some (.slice t.na t.ns.length t.nc) ∧ W.cell? ⟨w.heap.size, 7, none⟩ = some (.slice t.a t.ks.length t.cap) ∧ W.cell? ⟨w.heap.size + 1, 0, none⟩ = some (.int .i64 u.k) ∧ W.cell? ⟨w.heap.size + 1, 1, none⟩ = some (.int .i64 u.m) ∧ W.cell? ⟨w.heap.size + 1, 2, none⟩ = some (.string u.n) ∧ W.cell? ⟨w.heap.size + 1, 3, none⟩ = some (.int .i64 u.t.k) ∧ W.cell? ⟨w.heap.size + 1, 4, none⟩ = some (.string u.t.n) ∧ W.cell? ⟨w.heap.size + 1, 5, none⟩ = some (.slice u.t.a u.t.ks.length u.t.cap) ∧ W.cell? ⟨w.heap.size + 1, 6, none⟩ = some (.slice u.na u.ns.length u.nc) ∧ W.cell? ⟨w.heap.size + 1, 7, none⟩ = some (.slice u.a u.ks.length u.cap))
    (first | exact ⟨p0, p1, p2, p3, p4, p5, p6, p7, q0, q1, q2, q3, q4, q5, q6, q7⟩ | exact ⟨(k2 _ _ l1).trans p0, (k2 _ _ l1).trans p1, (k2 _ _ l1).trans p2, (k2 _ _ l1).trans p3, (k2 _ _ l1).trans p4, (k2 _ _ l1).trans p5, (k2 _ _ l1).trans p6, (k2 _ _ l1).trans p7, (k2 _ _ l2).trans q0, (k2 _ _ l2).trans q1, (k2 _ _ l2).trans q2, (k2 _ _ l2).trans q3, (k2 _ _ l2).trans q4, (k2 _ _ l2).trans q5, (k2 _ _ l2).trans q6, (k2 _ _ l2).trans q7⟩ | exact ⟨(k3 _ _ l1).trans p0, (k3 _ _ l1).trans p1, (k3 _ _ l1).trans p2, (k3 _ _ l1).trans p3, (k3 _ _ l1).trans p4, (k3 _ _ l1).trans p5, (k3 _ _ l1).trans p6, (k3 _ _ l1).trans p7, (k3 _ _ l2).trans q0, (k3 _ _ l2).trans q1, (k3 _ _ l2).trans q2, (k3 _ _ l2).trans q3, (k3 _ _ l2).trans q4, (k3 _ _ l2).trans q5, (k3 _ _ l2).trans q6, (k3 _ _ l2).trans q7⟩ | exact ⟨(k4 _ _ l1).trans p0, (k4 _ _ l1).trans p1, (k4 _ _ l1).trans p2, (k4 _ _ l1).trans p3, (k4 _ _ l1).trans p4, (k4 _ _ l1).trans p5, (k4 _ _ l1).trans p6, (k4 _ _ l1).trans p7, (k4 _ _ l2).trans q0, (k4 _ _ l2).trans q1, (k4 _ _ l2).trans q2, (k4 _ _ l2).trans q3, (k4 _ _ l2).trans q4, (k4 _ _ l2).trans q5, (k4 _ _ l2).trans q6, (k4 _ _ l2).trans q7⟩)
    (first
      | (go_at_call 40; refine (KType.impl_tc _).mono ?_; rintro e w2 ⟨k', _, rfl, hcap, hmp, g2, hMt⟩; have k2 : ∀ b o, b < W1.heap.size → w2.cell? ⟨b, o, none⟩ = W1.cell? ⟨b, o, none⟩ := fun b o h => (bcell g2).1 b o h)
      | (go_at_call 53; refine (impl_tmc k' _ (by exact hcap) (by exact hmp)).mono ?_; rintro e w3 ⟨k, rfl, henv, hmq, g3, hM⟩; have k3 : ∀ b o, b < W1.heap.size → w3.cell? ⟨b, o, none⟩ = W1.cell? ⟨b, o, none⟩ := fun b o h => ((bcell g3).1 b o (Nat.lt_of_lt_of_le h g2.size)).trans (k2 b o h))
      | (go_at_call 112; refine (cmp_all k k' (by obtain ⟨es, cl, hx, _⟩ := hmp; have := (Array.getElem?_eq_some_iff.1 hx).1; omega) t u _ (fun _ => False) (by exact FX.out.keep (free_gw (((Gw.refl W1).drew.trans g2).trans g3))) (by exact FY.out.keep (free_gw (((Gw.refl W1).drew.trans g2).trans g3))) henv hmq (fun v hv => hv.elim)).mono ?_; rintro e w4 ⟨r, rfl, hr, hc, _⟩; have k4 : ∀ b o, b < W1.heap.size → w4.cell? ⟨b, o, none⟩ = W1.cell? ⟨b, o, none⟩ := fun b o h => (World.cell?_of_block (a := ⟨b, o, none⟩) (hc.2.2.2.2 b (Nat.lt_of_lt_of_le (Nat.lt_of_lt_of_le h g2.size) g3.size) (fun e => by have h5 : W1.heap.size ≤ w2.heap.size := g2.size; have h6 : W1.heap.size ≤ k'.M := hMt; have h7 : b < W1.heap.size := h; rcases e with e | e <;> omega))).trans (k3 b o h)))
  have HR := Lib.hid hr
  have hG : Gw W1 w4 := Below.trans (((Gw.refl W1).drew.trans g2).trans g3) (hc.gw (Nat.le_trans g2.size g3.size) (fun b hb e => by have h5 : W1.heap.size ≤ w2.heap.size := g2.size; have h6 : W1.heap.size ≤ k'.M := hMt; have h7 : b < W1.heap.size := hb; rcases e with e | e <;> omega))
  have HG := Lib.hid (GA.out.trans hG)
  clear hr hc hG k2 k3 k4 hcap hmp henv hmq
  go_wp2_with fail
  go_ret
  exact ⟨r, rfl, HR.out, HG.out⟩

end Go.Proofs.Ytbbldkhlclfmkaa.Con.KTerm
