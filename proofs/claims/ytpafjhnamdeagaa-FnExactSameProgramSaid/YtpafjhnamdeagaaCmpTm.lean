/-
  Contracts of EqualFunc over terms and of the comparer's closure at terms: they answer whether two are equal, while the maps hold pairs of rows that are equal or still in comparison.
-/
import Derived.Test.YtpafjhnamdeagaaSmMapTerm
import Derived.Test.YtpafjhnamdeagaaTySmQ
import Derived.Test.YtpafjhnamdeagaaTmSame
namespace Go.Proofs.Ytpafjhnamdeagaa.Con.KTerm
open Go.RowKit Go.Proofs.Ytpafjhnamdeagaa.Con
set_option linter.unusedVariables false

theorem tmE_inj {x y : LM} (h : tmE x = tmE y) : x.k = y.k ∧ x.m = y.m ∧ x.n = y.n ∧ tc x.t = tc y.t ∧ x.na = y.na ∧ x.ns.length = y.ns.length ∧ x.nc = y.nc ∧ x.a = y.a ∧ x.ks.length = y.ks.length ∧ x.cap = y.cap := by
  unfold tmE at h
  simp only [List.cons.injEq, Value.int.injEq, Value.string.injEq, Value.slice.injEq, true_and, and_true] at h
  obtain ⟨h1, h2, h3, h4, h5, ⟨h6, h7, h8⟩, ⟨h9, h10, h11⟩, h12, h13, h14⟩ := h
  exact ⟨h1, h2, h3, by unfold tc; rw [h4, h5, h6, h7, h8], h9, h10, h11, h12, h13, h14⟩
theorem strUq {w : World} {a : Option Addr} {c : Nat} {xs ys : List ByteArray} (hx : strSl w a c xs) (hy : strSl w a c ys) (hl : xs.length = ys.length) : xs = ys := by
  refine List.ext_getElem hl fun i hi hi' => ?_
  obtain ⟨b, o, ha, hr⟩ := hx.2.2.resolve_left (fun e => by rw [e] at hi; simp at hi)
  obtain ⟨b', o', ha', hr'⟩ := hy.2.2.resolve_left (fun e => by rw [e] at hi'; simp at hi')
  rw [ha] at ha'
  injection ha' with ha'
  injection ha' with e1 e2
  subst e1 e2
  have f := (strRow_get hr i hi).1.symm.trans (strRow_get hr' i hi').1
  injection f with f
  injection f
theorem tmUq : gUniq tmE LM.Ok := fun w x => by
  refine LM.ind (P := fun x => ∀ y : LM, x.Ok w → y.Ok w → tmE x = tmE y → x = y) (fun k m n t na nc ns a c ks ih y hx hy he => ?_) x
  obtain ⟨h1, h2, h3, h4, h5, h6, h7, h8, h9, h10⟩ := tmE_inj he
  have ht := KType.tyUq w _ _ hx.ty hy.ty h4
  have hs : ns = y.ns := by
    have e := hy.nms
    rw [← h5, ← h7] at e
    exact strUq hx.nms e h6
  have hk : ks = y.ks := by
    refine List.ext_getElem h9 fun i hi hi' => ?_
    obtain ⟨b, o, ha, hr⟩ := hx.kids.2.2.resolve_left (fun e => by replace e : ks = [] := e; rw [e] at hi; simp at hi)
    obtain ⟨b', o', ha', hr'⟩ := hy.kids.2.2.resolve_left (fun e => by rw [e] at hi'; simp at hi')
    rw [← h8] at ha'
    rw [ha] at ha'
    injection ha' with ha'
    injection ha' with e1 e2
    subst e1 e2
    refine ih ks[i] (List.getElem_mem hi) y.ks[i] (hr i hi).2 (hr' i hi').2 (List.ext_getElem rfl fun j hj hj' => ?_)
    exact Option.some.inj (((hr i hi).1 j _ (List.getElem?_eq_getElem hj)).symm.trans ((hr' i hi').1 j _ (List.getElem?_eq_getElem hj')))
  rw [y.eta]
  replace h1 : k = y.k := h1
  replace h2 : m = y.m := h2
  replace h3 : n = y.n := h3
  replace ht : t = y.t := ht
  replace h5 : na = y.na := h5
  replace h7 : nc = y.nc := h7
  replace h8 : a = y.a := h8
  replace h10 : c = y.cap := h10
  subst h1 h2 h3 ht h5 h7 h8 h10 hs hk
  rfl

theorem cl_sm (ks : List LM) : cl LM.sz ks + ks.length = sm LM.sz ks := by
  induction ks with
  | nil => rfl
  | cons t ts ih =>
    unfold cl at ih ⊢
    rw [sm_cons]
    simp only [List.map_cons, List.sum_cons, List.length_cons]
    omega
theorem cl_kids (x : LM) (h : 0 < x.ks.length) : 2 * cl LM.sz x.ks + 1 ≤ 2 * x.sz := by
  have h1 := cl_sm x.ks
  have h2 := x.sz_eq
  omega

def FOk (w : World) (x : LM) : Prop := x.Ok w ∧ ∀ c ∈ x.bl, Free w c
theorem FOk.keep {w w' : World} {x : LM} (h : FOk w x) (hk : ∀ c, Free w c → w'.heap[c]? = w.heap[c]?) : FOk w' x :=
  ⟨tmFr _ _ _ h.1 fun c hc => hk c (h.2 c hc), fun c hc => (h.2 c hc).same (hk c (h.2 c hc))⟩
theorem FOk.ty {w : World} {x : LM} (h : FOk w x) : KType.FOk w x.t := ⟨h.1.ty, fun c hc => h.2 c (by rw [LM.bl_eq]; exact List.mem_append_left _ hc)⟩
abbrev Mp (w : World) (M : Nat) (S : Value → Prop) : Prop := KMp 8 tmE LM.Ok LM.bl (fun x y => x.tm = y.tm) w M S
abbrev Bg (w : World) (S : Value → Prop) (n : Nat) : Prop := KBig 8 tmE LM.Ok LM.bl LM.sz w S n
abbrev RF (w : World) (b o : Nat) (xs : List LM) : Prop := RowF 8 tmE LM.Ok LM.bl w b o xs
abbrev AllEq (xs ys : List LM) : Prop := All2 (fun x y : LM => x.tm = y.tm) xs ys
theorem free_gw {w w' : World} (g : Gw w w') : ∀ c, Free w c → w'.heap[c]? = w.heap[c]? := fun c h => g.block c h.lt
theorem Mp.gw {w w' : World} {M : Nat} {S : Value → Prop} (h : Mp w M S) (g : Gw w w') : Mp w' M S := by
  have h2 := h
  obtain ⟨es, cl, hm, _⟩ := h2
  exact KMp.stays tmFr h (g.block _ (Array.getElem?_eq_some_iff.1 hm).1) (free_gw g)

theorem FOk.row {w : World} {x : LM} (h : FOk w x) (hl : 0 < x.ks.length) : ∃ b o, x.a = some ⟨b, o, none⟩ ∧ RF w b o x.ks := by
  obtain ⟨b, o, ha, hr⟩ := h.1.kids.2.2.resolve_left (fun e => by rw [e] at hl; simp at hl)
  have hne : x.ks.isEmpty = false := by cases hx : x.ks with | nil => rw [hx] at hl; simp at hl | cons => rfl
  have hin : ∀ c, c ∈ nbl LM.bl x.a x.ks → Free w c := fun c hc => h.2 c (by rw [LM.bl_eq]; exact List.mem_append_right _ (List.mem_append_right _ hc))
  exact ⟨b, o, ha, hr, hin b (by unfold nbl; rw [hne, ha]; simp), fun u hu c hc => hin c (nbl_sub hu c hc)⟩
theorem RF.el {w : World} {b o : Nat} {xs : List LM} (h : RF w b o xs) (i : Nat) (hi : i < xs.length) : FOk w xs[i] := ⟨(h.1 i hi).2, h.2.2 _ (List.getElem_mem hi)⟩

/-- The blocks that the closure uses. -/
structure Bk where
  M : Nat
  Mt : Nat
  CK : Nat
  CN : Nat
  CM : Nat
  CF : Nat
  CS : Nat
  TK : Nat
  TN : Nat
  TM : Nat
  TF : Nat
def Tn (k : Bk) : Nat → Prop := fun b => b = k.M ∨ b = k.Mt
def Env (k : Bk) (w : World) (S : Value → Prop) : Prop := (w.heap[k.CK]? = some (.cells #[.func (.func 63) #[] #[]] 104 (0, 0)) ∧ w.heap[k.CN]? = some (.cells #[.func (.func 61) #[] #[.pointer (some ⟨k.CS, 0, none⟩)]] 30 (0, 0)) ∧
  w.heap[k.CM]? = some (.cells #[.map (some k.M)] 136 (0, 0)) ∧ w.heap[k.CF]? = some (.cells #[.func (.func 92) #[] #[.pointer (some ⟨k.CK, 0, none⟩), .pointer (some ⟨k.CN, 0, none⟩), .pointer (some ⟨k.CM, 0, none⟩), .pointer (some ⟨k.CF, 0, none⟩)]] 30 (0, 0)) ∧ w.heap[k.CS]? = some (.cells #[.func (.func 94) #[] #[.pointer (some ⟨k.TK, 0, none⟩), .pointer (some ⟨k.TN, 0, none⟩), .pointer (some ⟨k.TM, 0, none⟩), .pointer (some ⟨k.TF, 0, none⟩)]] 68 (0, 0))) ∧
  KType.Caps w k.Mt k.TK k.TN k.TM k.TF ∧ Mp w k.M S ∧ KType.Mp w k.Mt (fun _ => False)
theorem Env.cells {k : Bk} {w w' : World} {S S' : Value → Prop} (h : Env k w S) (hk : ∀ c, Free w c → w'.heap[c]? = w.heap[c]?) (h2 : Mp w' k.M S') (h3 : KType.Mp w' k.Mt (fun _ => False)) : Env k w' S' :=
  ⟨⟨(hk _ ⟨_, _, h.1.1⟩).trans h.1.1, (hk _ ⟨_, _, h.1.2.1⟩).trans h.1.2.1, (hk _ ⟨_, _, h.1.2.2.1⟩).trans h.1.2.2.1, (hk _ ⟨_, _, h.1.2.2.2.1⟩).trans h.1.2.2.2.1, (hk _ ⟨_, _, h.1.2.2.2.2⟩).trans h.1.2.2.2.2⟩, h.2.1.keep hk, h2, h3⟩
theorem Env.gw {k : Bk} {w w' : World} {S : Value → Prop} (h : Env k w S) (g : Gw w w') : Env k w' S := h.cells (free_gw g) (h.2.2.1.gw g) (h.2.2.2.gw g)
theorem Env.free {k : Bk} {w w' : World} {S : Value → Prop} (h : Env k w S) (hc : Chg w w' (Tn k)) : ∀ c, Free w c → w'.heap[c]? = w.heap[c]? := fun c hf => by
  obtain ⟨_, _, ⟨es, cl, hm, _⟩, es', cl', hm', _⟩ := h
  refine hc.2.2.2.2 c hf.lt fun e => ?_
  obtain ⟨cs, t, hf⟩ := hf
  rcases e with e | e
  · rw [e] at hf; rw [hm] at hf; cases hf
  · rw [e] at hf; rw [hm'] at hf; cases hf

def CmpPost (w : World) (k : Bk) (S : Value → Prop) (x y : LM) (e : Ending) (w' : World) : Prop := ∃ r : Bool, e = .returned (.bool r) ∧ (r = true ↔ x.tm = y.tm) ∧ Chg w w' (Tn k) ∧ (r = true → Env k w' S)
def RowPost (w : World) (k : Bk) (S : Value → Prop) (xs ys : List LM) (e : Ending) (w' : World) : Prop := ∃ r : Bool, e = .returned (.bool r) ∧ (r = true ↔ AllEq xs ys) ∧ Chg w w' (Tn k) ∧ (r = true → Env k w' S)
def CmpC (x : LM) : Prop := ∀ (y : LM) (w : World) (k : Bk) (S : Value → Prop), FOk w x → FOk w y → Env k w S → k.M ≠ k.Mt → Bg w S (2 * x.sz) →
  Calls Try.prog 92 #[x.val, y.val, .pointer (some ⟨k.CK, 0, none⟩), .pointer (some ⟨k.CN, 0, none⟩), .pointer (some ⟨k.CM, 0, none⟩), .pointer (some ⟨k.CF, 0, none⟩)] w (CmpPost w k S x y)
theorem cmp_false {w w' : World} {k : Bk} {S : Value → Prop} {x y : LM} (h : ¬ x.tm = y.tm) (hc : Chg w w' (Tn k)) : CmpPost w k S x y (.returned (.bool false)) w' := ⟨false, rfl, by simp [h], hc, fun h => by cases h⟩
theorem cmp_true {w w' : World} {k : Bk} {S : Value → Prop} {x y : LM} (h : x.tm = y.tm) (hc : Chg w w' (Tn k)) (hm : Env k w' S) : CmpPost w k S x y (.returned (.bool true)) w' := ⟨true, rfl, by simp [h], hc, fun _ => hm⟩

theorem impl_kids (x : LM) (w : World) : Calls Try.prog 63 #[x.val] w fun e w' => e = .returned (.slice x.a x.ks.length x.cap) ∧ Gw w w' := by
  have G := Lib.hid ((Gw.refl w).alloc (.cells #[.int .i64 x.k, .int .i64 x.m, .string x.n, .int .i64 x.t.k, .string x.t.n, .slice x.t.a x.t.ks.length x.t.cap, .slice x.na x.ns.length x.nc, .slice x.a x.ks.length x.cap] 36))
  go_enter Try.func63, Try.ntmps63
  go_wp2_with fail
  go_ret
  exact ⟨rfl, G.out⟩

def nodeEq (x y : LM) : Prop := x.k = y.k ∧ x.m = y.m ∧ x.n = y.n ∧ x.ns = y.ns ∧ x.t.ty = y.t.ty
def NodePost (w : World) (k : Bk) (S : Value → Prop) (x y : LM) (e : Ending) (w' : World) : Prop := ∃ r : Bool, e = .returned (.bool r) ∧ (r = true ↔ nodeEq x y) ∧ Chg w w' (Tn k) ∧ (r = true → Env k w' S)
theorem node_false {w w' : World} {k : Bk} {S : Value → Prop} {x y : LM} (h : ¬ nodeEq x y) (hc : Chg w w' (Tn k)) : NodePost w k S x y (.returned (.bool false)) w' := ⟨false, rfl, by simp [h], hc, fun h => by cases h⟩

set_option maxRecDepth 100000 in
set_option maxHeartbeats 1000000 in
theorem impl_node (x y : LM) (w : World) (k : Bk) (S : Value → Prop) (hx : FOk w x) (hy : FOk w y) (henv : Env k w S) (hM : k.M ≠ k.Mt) : Calls Try.prog 61 #[x.val, y.val, .pointer (some ⟨k.CS, 0, none⟩)] w (NodePost w k S x y) := by
  have gA : Gw w ((w.alloc (.cells #[.int .i64 x.k, .int .i64 x.m, .string x.n, .int .i64 x.t.k, .string x.t.n, .slice x.t.a x.t.ks.length x.t.cap, .slice x.na x.ns.length x.nc, .slice x.a x.ks.length x.cap] 36)).alloc (.cells #[.int .i64 y.k, .int .i64 y.m, .string y.n, .int .i64 y.t.k, .string y.t.n, .slice y.t.a y.t.ks.length y.t.cap, .slice y.na y.ns.length y.nc, .slice y.a y.ks.length y.cap] 36)) := ((Gw.refl w).alloc _).alloc _
  have b1 := (BoxM.new w x 36).grow ((Gw.refl _).alloc (.cells #[.int .i64 y.k, .int .i64 y.m, .string y.n, .int .i64 y.t.k, .string y.t.n, .slice y.t.a y.t.ks.length y.t.cap, .slice y.na y.ns.length y.nc, .slice y.a y.ks.length y.cap] 36))
  have b2 := BoxM.new (w.alloc (.cells #[.int .i64 x.k, .int .i64 x.m, .string x.n, .int .i64 x.t.k, .string x.t.n, .slice x.t.a x.t.ks.length x.t.cap, .slice x.na x.ns.length x.nc, .slice x.a x.ks.length x.cap] 36)) y 36
  rw [World.size_alloc] at b2
  have FX := Lib.hid (hx.keep (free_gw gA))
  have FY := Lib.hid (hy.keep (free_gw gA))
  have EN := Lib.hid (henv.gw gA)
  have HC := Lib.hid (Chg.of_gw gA (Tn k))
  clear hx hy henv gA
  go_enter Try.func61, Try.ntmps61
  go_upto_region 1 with (fail)
  generalize (w.alloc (.cells #[.int .i64 x.k, .int .i64 x.m, .string x.n, .int .i64 x.t.k, .string x.t.n, .slice x.t.a x.t.ks.length x.t.cap, .slice x.na x.ns.length x.nc, .slice x.a x.ks.length x.cap] 36)).alloc (.cells #[.int .i64 y.k, .int .i64 y.m, .string y.n, .int .i64 y.t.k, .string y.t.n, .slice y.t.a y.t.ks.length y.t.cap, .slice y.na y.ns.length y.nc, .slice y.a y.ks.length y.cap] 36) = W1 at *
  obtain ⟨p0, p1, p2, p3, p4, p5, p6, p7⟩ := b1.c
  obtain ⟨q0, q1, q2, q3, q4, q5, q6, q7⟩ := b2.c
  by_cases h1 : x.k = y.k
  rotate_left
  · have d1 : (x.k == y.k) = false := by simpa using h1
    have F := Lib.hid (show ¬ nodeEq x y from fun e => h1 e.1)
    clear h1
    go_wp2_with fail
    go_ret
    exact node_false F.out HC.out
  have d1 : (x.k == y.k) = true := by simpa using h1
  have H1 := Lib.hid h1
  clear h1
  by_cases h2 : x.m = y.m
  rotate_left
  · have d2 : (x.m == y.m) = false := by simpa using h2
    have F := Lib.hid (show ¬ nodeEq x y from fun e => h2 e.2.1)
    clear h2
    go_wp2_with fail
    go_ret
    exact node_false F.out HC.out
  have d2 : (x.m == y.m) = true := by simpa using h2
  have H2 := Lib.hid h2
  clear h2
  by_cases h3 : x.n = y.n
  rotate_left
  · have d3 := toList_neS h3
    have F := Lib.hid (show ¬ nodeEq x y from fun e => h3 e.2.2.1)
    clear h3
    go_wp2_with fail
    go_ret
    exact node_false F.out HC.out
  have d3 : (x.n.toList == y.n.toList) = true := by rw [h3]; simp
  have H3 := Lib.hid h3
  clear h3
  go_wp2_with fail
  refine (impl_equalS x.ns y.ns _ x.na y.na x.nc y.nc FX.out.1.nms FY.out.1.nms).mono ?_
  rintro e w2 ⟨r, rfl, hr, g2⟩
  replace FX := Lib.hid (FX.out.keep (free_gw g2))
  replace FY := Lib.hid (FY.out.keep (free_gw g2))
  replace EN := Lib.hid (EN.out.gw g2)
  replace HC := Lib.hid (HC.out.trans (Chg.of_gw g2 (Tn k)) (fun _ _ h => h))
  replace b1 := b1.grow g2
  replace b2 := b2.grow g2
  clear p0 p1 p2 p3 p4 p5 p6 p7 q0 q1 q2 q3 q4 q5 q6 q7 g2
  cases r with
  | false =>
    have F := Lib.hid (show ¬ nodeEq x y from fun e => by have := hr.2 e.2.2.2.1; cases this)
    clear hr
    go_wp2_with fail
    go_ret
    exact node_false F.out HC.out
  | true =>
  have H4 := Lib.hid (hr.1 rfl)
  clear hr
  obtain ⟨p0, p1, p2, p3, p4, p5, p6, p7⟩ := b1.c
  obtain ⟨q0, q1, q2, q3, q4, q5, q6, q7⟩ := b2.c
  have f0 : w2.cell? ⟨k.CS, 0, none⟩ = some (.func (.func 94) #[] #[.pointer (some ⟨k.TK, 0, none⟩), .pointer (some ⟨k.TN, 0, none⟩), .pointer (some ⟨k.TM, 0, none⟩), .pointer (some ⟨k.TF, 0, none⟩)]) := cell_of_row _ _ 0 _ _ _ EN.out.1.2.2.2.2
  go_wp2_with fail
  refine (KType.cmp_all x.t y.t _ k.Mt k.TK k.TN k.TM k.TF (fun _ => False) FX.out.ty FY.out.ty EN.out.2.1 EN.out.2.2.2 (fun v hv => hv.elim)).mono ?_
  rintro e w3 ⟨r, rfl, hr, hc, hm⟩
  have C3 := Lib.hid (HC.out.trans (hc.mono (fun b hb => Or.inr hb : ∀ b, b = k.Mt → Tn k b)) (fun _ _ h => h))
  clear p0 p1 p2 p3 p4 p5 p6 p7 q0 q1 q2 q3 q4 q5 q6 q7 f0 b1 b2
  cases r with
  | false =>
    have F := Lib.hid (show ¬ nodeEq x y from fun e => by have := hr.2 e.2.2.2.2; cases this)
    clear hr hm hc
    go_wp2_with fail
    go_ret
    exact node_false F.out C3.out
  | true =>
    have F := Lib.hid (show nodeEq x y from ⟨H1.out, H2.out, H3.out, H4.out, hr.1 rfl⟩)
    have E3 := Lib.hid (show Env k w3 S by
      have hk := KType.Mp.free EN.out.2.2.2 hc
      refine EN.out.cells hk ?_ (hm rfl)
      have h3 := EN.out.2.2.1
      have h4 := h3
      obtain ⟨es, cl, hm', _⟩ := h4
      exact KMp.stays tmFr h3 (hc.2.2.2.2 _ (Array.getElem?_eq_some_iff.1 hm').1 hM) hk)
    clear hr hm hc
    go_wp2_with fail
    go_ret
    exact ⟨true, rfl, by simp [F.out], C3.out, fun _ => E3.out⟩

set_option maxRecDepth 100000 in
set_option maxHeartbeats 2000000 in
theorem eqf (xs ys : List LM) (ih : ∀ u ∈ xs, CmpC u) (n : Nat) (hx : xs.length = n) (hy : ys.length = n) (hn : n ≤ 9223372036854775807) (w : World) (b o b' o' c c' : Nat) (k : Bk) (S : Value → Prop) (hcx : n ≤ c) (hcy : n ≤ c') (hxr : RF w b o xs) (hyr : RF w b' o' ys) (henv : Env k w S) (hM : k.M ≠ k.Mt) (hbig : ∀ u ∈ xs, Bg w S (2 * u.sz)) :
    Calls Try.prog 93 #[.slice (some ⟨b, o, none⟩) n c, .slice (some ⟨b', o', none⟩) n c', .func (.func 92) #[] #[.pointer (some ⟨k.CK, 0, none⟩), .pointer (some ⟨k.CN, 0, none⟩), .pointer (some ⟨k.CM, 0, none⟩), .pointer (some ⟨k.CF, 0, none⟩)]] w (RowPost w k S xs ys) := by
  have HX := Lib.hid hx
  have HY := Lib.hid hy
  have RX := Lib.hid hxr
  have RY := Lib.hid hyr
  have EN := Lib.hid henv
  have BG := Lib.hid hbig
  have hnn : ((n : Int) != (n : Int)) = false := by simp
  clear hx hy hxr hyr henv hbig
  go_enter Try.func93, Try.ntmps93
  go_wp2_with fail
  clear hnn
  go_loopw [17] (fun i wr => ∃ j : Nat, j ≤ n ∧ i = .int .i64 j ∧ Chg w wr (Tn k) ∧ Env k wr S ∧ ∀ i (hx : i < xs.length) (hy : i < ys.length), i < j → xs[i].tm = ys[i].tm) (fun i _ => n - (intOf i).toNat)
  case atStart => exact ⟨0, Nat.zero_le _, rfl, Chg.of_gw (Gw.refl _) _, EN.out, fun i _ _ h => absurd h (by omega)⟩
  case round =>
    obtain ⟨j, hj, rfl, hc, hm, hall⟩ := hrel
    have HC := Lib.hid hc
    have HM := Lib.hid hm
    have HALL := Lib.hid hall
    have hk := EN.out.free hc
    have RX3 := Lib.hid (RX.out.keep tmFr hk)
    have RY3 := Lib.hid (RY.out.keep tmFr hk)
    have BG3 := Lib.hid (fun u hu => (BG.out u hu).keep tmFr hk)
    clear hc hm hall hk
    by_cases hlt : j < n
    · have hx := HX.out
      have hy := HY.out
      have hjx : j < xs.length := by omega
      have hjy : j < ys.length := by omega
      obtain ⟨c0, c1, c2, c3, c4, c5, c6, c7, _⟩ := tmRow_get RX3.out.1 j hjx
      obtain ⟨d0, d1, d2, d3, d4, d5, d6, d7, _⟩ := tmRow_get RY3.out.1 j hjy
      have FX := Lib.hid (RF.el RX3.out j hjx)
      have FY := Lib.hid (RF.el RY3.out j hjy)
      have r0 : (0 : Int) ≤ j := by omega
      have r1 : (j : Int) < n := by omega
      have lX : b < wr.heap.size := cell_lt c0
      have lY : b' < wr.heap.size := cell_lt d0
      clear hx hy
      go_upto_region 7 with (fail)
      have b1 := (BoxM.new wr xs[j] 36).grow ((Gw.refl _).alloc (.cells #[.int .i64 ys[j].k, .int .i64 ys[j].m, .string ys[j].n, .int .i64 ys[j].t.k, .string ys[j].t.n, .slice ys[j].t.a ys[j].t.ks.length ys[j].t.cap, .slice ys[j].na ys[j].ns.length ys[j].nc, .slice ys[j].a ys[j].ks.length ys[j].cap] 36))
      have b2 := BoxM.new (wr.alloc (.cells #[.int .i64 xs[j].k, .int .i64 xs[j].m, .string xs[j].n, .int .i64 xs[j].t.k, .string xs[j].t.n, .slice xs[j].t.a xs[j].t.ks.length xs[j].t.cap, .slice xs[j].na xs[j].ns.length xs[j].nc, .slice xs[j].a xs[j].ks.length xs[j].cap] 36)) ys[j] 36
      rw [World.size_alloc] at b2
      have gA : Gw wr ((wr.alloc (.cells #[.int .i64 xs[j].k, .int .i64 xs[j].m, .string xs[j].n, .int .i64 xs[j].t.k, .string xs[j].t.n, .slice xs[j].t.a xs[j].t.ks.length xs[j].t.cap, .slice xs[j].na xs[j].ns.length xs[j].nc, .slice xs[j].a xs[j].ks.length xs[j].cap] 36)).alloc (.cells #[.int .i64 ys[j].k, .int .i64 ys[j].m, .string ys[j].n, .int .i64 ys[j].t.k, .string ys[j].t.n, .slice ys[j].t.a ys[j].t.ks.length ys[j].t.cap, .slice ys[j].na ys[j].ns.length ys[j].nc, .slice ys[j].a ys[j].ks.length ys[j].cap] 36)) := ((Gw.refl wr).alloc _).alloc _
      clear c0 c1 c2 c3 c4 c5 c6 c7 d0 d1 d2 d3 d4 d5 d6 d7 lX lY
      generalize ((wr.alloc (.cells #[.int .i64 xs[j].k, .int .i64 xs[j].m, .string xs[j].n, .int .i64 xs[j].t.k, .string xs[j].t.n, .slice xs[j].t.a xs[j].t.ks.length xs[j].t.cap, .slice xs[j].na xs[j].ns.length xs[j].nc, .slice xs[j].a xs[j].ks.length xs[j].cap] 36)).alloc (.cells #[.int .i64 ys[j].k, .int .i64 ys[j].m, .string ys[j].n, .int .i64 ys[j].t.k, .string ys[j].t.n, .slice ys[j].t.a ys[j].t.ks.length ys[j].t.cap, .slice ys[j].na ys[j].ns.length ys[j].nc, .slice ys[j].a ys[j].ks.length ys[j].cap] 36)) = W at *
      have hk := free_gw gA
      have KEY := Lib.hid (ih xs[j] (List.getElem_mem hjx) ys[j] W k S (FX.out.keep hk) (FY.out.keep hk) (HM.out.gw gA) hM ((BG3.out _ (List.getElem_mem hjx)).keep tmFr hk))
      have GA := Lib.hid (HC.out.trans (Chg.of_gw gA (Tn k)) (fun _ _ h => h))
      obtain ⟨p0, p1, p2, p3, p4, p5, p6, p7⟩ := b1.c
      obtain ⟨q0, q1, q2, q3, q4, q5, q6, q7⟩ := b2.c
      clear hk gA b1 b2
      go_wp2_with fail
      refine KEY.out.mono ?_
      rintro e w4 ⟨r, rfl, hr, hc4, hm4⟩
      have C4 := Lib.hid (GA.out.trans hc4 (fun _ _ h => h))
      clear p0 p1 p2 p3 p4 p5 p6 p7 q0 q1 q2 q3 q4 q5 q6 q7 KEY hc4
      cases r with
      | false =>
        have F := Lib.hid (show ¬ AllEq xs ys from fun h => by have := hr.2 (h.2 j hjx hjy); cases this)
        clear hr hm4
        go_wp2_with fail
        go_ret
        exact ⟨false, rfl, by simp [F.out], C4.out, fun h => by cases h⟩
      | true =>
        have HE := Lib.hid (hr.1 rfl)
        have HM4 := Lib.hid (hm4 rfl)
        clear hr hm4
        go_wp2_with fail
        go_roundw
        case rel =>
          refine ⟨j + 1, by omega, by go_num, C4.out, HM4.out, fun i hx hy hi => ?_⟩
          by_cases e : i = j
          · subst e; exact HE.out
          · exact HALL.out i hx hy (by omega)
        case measure => simp [intOf]; omega
    · obtain rfl : j = n := by omega
      have F := Lib.hid (show AllEq xs ys from ⟨HX.out.trans HY.out.symm, fun i hx hy => HALL.out i hx hy (by have := HX.out; omega)⟩)
      go_wp2_with fail
      go_ret
      exact ⟨true, rfl, by simp [F.out], HC.out, fun _ => HM.out⟩

theorem eqf' (xs ys : List LM) (ih : ∀ u ∈ xs, CmpC u) (n m : Nat) (hnm : n = m) (hx : n = xs.length) (hy : m = ys.length) (hn : n ≤ 9223372036854775807) (w : World) (b o b' o' c c' : Nat) (k : Bk) (S : Value → Prop) (hcx : n ≤ c) (hcy : m ≤ c') (hxr : RF w b o xs) (hyr : RF w b' o' ys) (henv : Env k w S) (hM : k.M ≠ k.Mt) (hbig : ∀ u ∈ xs, Bg w S (2 * u.sz)) :
    Calls Try.prog 93 #[.slice (some ⟨b, o, none⟩) n c, .slice (some ⟨b', o', none⟩) m c', .func (.func 92) #[] #[.pointer (some ⟨k.CK, 0, none⟩), .pointer (some ⟨k.CN, 0, none⟩), .pointer (some ⟨k.CM, 0, none⟩), .pointer (some ⟨k.CF, 0, none⟩)]] w (RowPost w k S xs ys) := by
  subst hnm
  exact eqf xs ys ih n hx.symm hy.symm hn w b o b' o' c c' k S hcx hcy hxr hyr henv hM hbig

set_option maxRecDepth 100000 in
set_option maxHeartbeats 2000000 in
theorem cmp_of (x : LM) (ih : ∀ u ∈ x.ks, CmpC u) : CmpC x := by
  intro y w k S hx hy henv hM hbig
  have hlx : x.ks.length ≤ 9223372036854775807 := Nat.le_trans hx.1.kids.1 hx.1.kids.2.1
  have hly : y.ks.length ≤ 9223372036854775807 := Nat.le_trans hy.1.kids.1 hy.1.kids.2.1
  have gA : Gw w ((w.alloc (.cells #[.int .i64 x.k, .int .i64 x.m, .string x.n, .int .i64 x.t.k, .string x.t.n, .slice x.t.a x.t.ks.length x.t.cap, .slice x.na x.ns.length x.nc, .slice x.a x.ks.length x.cap] 36)).alloc (.cells #[.int .i64 y.k, .int .i64 y.m, .string y.n, .int .i64 y.t.k, .string y.t.n, .slice y.t.a y.t.ks.length y.t.cap, .slice y.na y.ns.length y.nc, .slice y.a y.ks.length y.cap] 36)) := ((Gw.refl w).alloc _).alloc _
  have b1 := (BoxM.new w x 36).grow ((Gw.refl _).alloc (.cells #[.int .i64 y.k, .int .i64 y.m, .string y.n, .int .i64 y.t.k, .string y.t.n, .slice y.t.a y.t.ks.length y.t.cap, .slice y.na y.ns.length y.nc, .slice y.a y.ks.length y.cap] 36))
  have b2 := BoxM.new (w.alloc (.cells #[.int .i64 x.k, .int .i64 x.m, .string x.n, .int .i64 x.t.k, .string x.t.n, .slice x.t.a x.t.ks.length x.t.cap, .slice x.na x.ns.length x.nc, .slice x.a x.ks.length x.cap] 36)) y 36
  rw [World.size_alloc] at b2
  have hk := free_gw gA
  have FX := Lib.hid (hx.keep hk)
  have FY := Lib.hid (hy.keep hk)
  have EN := Lib.hid (henv.gw gA)
  have BG := Lib.hid (hbig.keep tmFr hk)
  have HC := Lib.hid (Chg.of_gw gA (Tn k))
  clear hx hy henv hbig hk gA
  go_enter Try.func92, Try.ntmps92
  go_upto_region 1 with (fail)
  generalize ((w.alloc (.cells #[.int .i64 x.k, .int .i64 x.m, .string x.n, .int .i64 x.t.k, .string x.t.n, .slice x.t.a x.t.ks.length x.t.cap, .slice x.na x.ns.length x.nc, .slice x.a x.ks.length x.cap] 36)).alloc (.cells #[.int .i64 y.k, .int .i64 y.m, .string y.n, .int .i64 y.t.k, .string y.t.n, .slice y.t.a y.t.ks.length y.t.cap, .slice y.na y.ns.length y.nc, .slice y.a y.ks.length y.cap] 36)) = W1 at *
  have k0 : W1.cell? ⟨k.CK, 0, none⟩ = some (.func (.func 63) #[] #[]) := cell_of_row _ _ 0 _ _ _ EN.out.1.1
  have lK : k.CK < W1.heap.size := (Array.getElem?_eq_some_iff.1 EN.out.1.1).1
  have l1 := b1.lt
  have l2 := b2.lt
  obtain ⟨p0, p1, p2, p3, p4, p5, p6, p7⟩ := b1.c
  obtain ⟨q0, q1, q2, q3, q4, q5, q6, q7⟩ := b2.c
  go_region_held3 (fun W => W.cell? ⟨k.CK, 0, none⟩ = some (.func (.func 63) #[] #[]) ∧ W.cell? ⟨w.heap.size, 0, none⟩ = some (.int .i64 x.k) ∧ W.cell? ⟨w.heap.size, 1, none⟩ = some (.int .i64 x.m) ∧ W.cell? ⟨w.heap.size, 2, none⟩ = some (.string x.n) ∧ W.cell? ⟨w.heap.size, 3, none⟩ = some (.int .i64 x.t.k) ∧ W.cell? ⟨w.heap.size, 4, none⟩ = some (.string x.t.n) ∧ W.cell? ⟨w.heap.size, 5, none⟩ = some (.slice x.t.a x.t.ks.length x.t.cap) ∧ W.cell? ⟨w.heap.size, 6, none⟩ = some (.slice x.na x.ns.length x.nc) ∧ W.cell? ⟨w.heap.size, 7, none⟩ = some (.slice x.a x.ks.length x.cap) ∧ W.cell? ⟨w.heap.size + 1, 0, none⟩ = some (.int .i64 y.k) ∧ W.cell? ⟨w.heap.size + 1, 1, none⟩ = some (.int .i64 y.m) ∧ W.cell? ⟨w.heap.size + 1, 2, none⟩ = some (.string y.n) ∧ W.cell? ⟨w.heap.size + 1, 3, none⟩ = some (.int .i64 y.t.k) ∧ W.cell? ⟨w.heap.size + 1, 4, none⟩ = some (.string y.t.n) ∧ W.cell? ⟨w.heap.size + 1, 5, none⟩ = some (.slice y.t.a y.t.ks.length y.t.cap) ∧ W.cell? ⟨w.heap.size + 1, 6, none⟩ = some (.slice y.na y.ns.length y.nc) ∧ W.cell? ⟨w.heap.size + 1, 7, none⟩ = some (.slice y.a y.ks.length y.cap))
    (first | exact ⟨k0, p0, p1, p2, p3, p4, p5, p6, p7, q0, q1, q2, q3, q4, q5, q6, q7⟩ | exact ⟨(k2 _ _ lK).trans k0, (k2 _ _ l1).trans p0, (k2 _ _ l1).trans p1, (k2 _ _ l1).trans p2, (k2 _ _ l1).trans p3, (k2 _ _ l1).trans p4, (k2 _ _ l1).trans p5, (k2 _ _ l1).trans p6, (k2 _ _ l1).trans p7, (k2 _ _ l2).trans q0, (k2 _ _ l2).trans q1, (k2 _ _ l2).trans q2, (k2 _ _ l2).trans q3, (k2 _ _ l2).trans q4, (k2 _ _ l2).trans q5, (k2 _ _ l2).trans q6, (k2 _ _ l2).trans q7⟩ | exact ⟨(k3 _ _ lK).trans k0, (k3 _ _ l1).trans p0, (k3 _ _ l1).trans p1, (k3 _ _ l1).trans p2, (k3 _ _ l1).trans p3, (k3 _ _ l1).trans p4, (k3 _ _ l1).trans p5, (k3 _ _ l1).trans p6, (k3 _ _ l1).trans p7, (k3 _ _ l2).trans q0, (k3 _ _ l2).trans q1, (k3 _ _ l2).trans q2, (k3 _ _ l2).trans q3, (k3 _ _ l2).trans q4, (k3 _ _ l2).trans q5, (k3 _ _ l2).trans q6, (k3 _ _ l2).trans q7⟩)
    (first
      | (go_at_call_of 63 (Value.agg #[.int .i64 x.k, .int .i64 x.m, .string x.n, .int .i64 x.t.k, .string x.t.n, .slice x.t.a x.t.ks.length x.t.cap, .slice x.na x.ns.length x.nc, .slice x.a x.ks.length x.cap]); refine (impl_kids x _).mono ?_; rintro e w2 ⟨rfl, g2⟩; have k2 : ∀ b o, b < W1.heap.size → w2.cell? ⟨b, o, none⟩ = W1.cell? ⟨b, o, none⟩ := fun b o h => (bcell g2).1 b o h)
      | (go_at_call_of 63 (Value.agg #[.int .i64 y.k, .int .i64 y.m, .string y.n, .int .i64 y.t.k, .string y.t.n, .slice y.t.a y.t.ks.length y.t.cap, .slice y.na y.ns.length y.nc, .slice y.a y.ks.length y.cap]); refine (impl_kids y _).mono ?_; rintro e w3 ⟨rfl, g3⟩; have k3 : ∀ b o, b < W1.heap.size → w3.cell? ⟨b, o, none⟩ = W1.cell? ⟨b, o, none⟩ := fun b o h => ((bcell g3).1 b o (Nat.lt_of_lt_of_le h g2.size)).trans (k2 b o h)))
  have gB : Gw W1 w3 := ((Gw.refl W1).drew.trans g2).trans g3
  have hk := free_gw gB
  replace FX := Lib.hid (FX.out.keep hk)
  replace FY := Lib.hid (FY.out.keep hk)
  replace EN := Lib.hid (EN.out.gw gB)
  replace BG := Lib.hid (BG.out.keep tmFr hk)
  replace HC := Lib.hid (HC.out.trans (Chg.of_gw gB (Tn k)) (fun _ _ h => h))
  replace b1 := b1.grow gB
  replace b2 := b2.grow gB
  clear k0 lK l1 l2 p0 p1 p2 p3 p4 p5 p6 p7 q0 q1 q2 q3 q4 q5 q6 q7 k2 k3 g2 g3 gB hk
  obtain ⟨p0, p1, p2, p3, p4, p5, p6, p7⟩ := b1.c
  obtain ⟨q0, q1, q2, q3, q4, q5, q6, q7⟩ := b2.c
  have n0 : w3.cell? ⟨k.CN, 0, none⟩ = some (.func (.func 61) #[] #[.pointer (some ⟨k.CS, 0, none⟩)]) := cell_of_row _ _ 0 _ _ _ EN.out.1.2.1
  by_cases hl : x.ks.length = y.ks.length
  rotate_left
  · have q1 : ((x.ks.length : Int) != (y.ks.length : Int)) = true := by simp; omega
    have F := Lib.hid (show ¬ x.tm = y.tm from fun e => hl ((tm_iff x y).1 e).2.2.2.2.2.1)
    go_wp2_with fail
    go_ret
    exact cmp_false F.out HC.out
  have z1 : ((x.ks.length : Int) != (y.ks.length : Int)) = false := by simp; omega
  have HL := Lib.hid hl
  clear hl
  go_wp2_with fail
  refine (impl_node x y _ k S FX.out FY.out EN.out hM).mono ?_
  rintro e w4 ⟨r, rfl, hr, hc4, hm4⟩
  have hk := EN.out.free hc4
  replace FX := Lib.hid (FX.out.keep hk)
  replace FY := Lib.hid (FY.out.keep hk)
  replace BG := Lib.hid (BG.out.keep tmFr hk)
  replace HC := Lib.hid (HC.out.trans hc4 (fun _ _ h => h))
  clear p0 p1 p2 p3 p4 p5 p6 p7 q0 q1 q2 q3 q4 q5 q6 q7 n0 b1 b2 hc4 hk
  cases r with
  | false =>
    have F := Lib.hid (show ¬ x.tm = y.tm from fun h => by
      have h2 := (tm_iff x y).1 h
      have := hr.2 ⟨h2.1, h2.2.1, h2.2.2.1, h2.2.2.2.2.1, h2.2.2.2.1⟩
      cases this)
    clear hr hm4
    go_wp2_with fail
    go_ret
    exact cmp_false F.out HC.out
  | true =>
  have HR := Lib.hid (hr.1 rfl)
  replace EN := Lib.hid (hm4 rfl)
  have TI := Lib.hid (show AllEq x.ks y.ks → x.tm = y.tm from fun h => (tm_iff x y).2 ⟨HR.out.1, HR.out.2.1, HR.out.2.2.1, HR.out.2.2.2.2, HR.out.2.2.2.1, HL.out, h.2⟩)
  clear hr hm4
  by_cases h0 : x.ks.length = 0
  · have z2 : ((x.ks.length : Int) == 0) = true := by simp; exact List.eq_nil_of_length_eq_zero h0
    have F := Lib.hid (show x.tm = y.tm from TI.out ⟨HL.out, fun i hx _ => by omega⟩)
    go_wp2_with fail
    go_ret
    exact cmp_true F.out HC.out EN.out
  have z2 : ((x.ks.length : Int) == 0) = false := by simp; exact fun e => h0 (by rw [e]; rfl)
  have hp : (0 : Int) < x.ks.length := by omega
  have hp2 : (0 : Int) < y.ks.length := by have := HL.out; omega
  obtain ⟨bx, ox, hax, rx⟩ := FX.out.row (by omega)
  obtain ⟨by', oy, hay, ry⟩ := FY.out.row (by have := HL.out; omega)
  rw [hax, hay]
  have RX := Lib.hid rx
  have RY := Lib.hid ry
  obtain ⟨n, hn⟩ : ∃ n, n = x.ks.length := ⟨_, rfl⟩
  obtain ⟨m, hm⟩ : ∃ m, m = y.ks.length := ⟨_, rfl⟩
  have HN := Lib.hid hn
  have HM := Lib.hid hm
  rw [← hn] at hp z2 ⊢
  rw [← hm] at hp2 ⊢
  have hpn : 0 < n := by omega
  have hpm : 0 < m := by omega
  clear rx ry hax hay h0 hn hm z1
  go_upto_region 6 with (fail)
  go_region_held3 (fun W => True) (first | exact trivial) (first | fail)
  have gB : Gw w4 ((w4.alloc (.cells #[.pointer (some ⟨bx, ox, none⟩), .pointer (some ⟨by', oy, none⟩), .int .i64 n] 139)).drew) := ((Gw.refl w4).alloc _).drew
  have hk := free_gw gB
  replace FX := Lib.hid (FX.out.keep hk)
  replace FY := Lib.hid (FY.out.keep hk)
  replace EN := Lib.hid (EN.out.gw gB)
  replace BG := Lib.hid (BG.out.keep tmFr hk)
  replace HC := Lib.hid (HC.out.trans (Chg.of_gw gB (Tn k)) (fun _ _ h => h))
  replace RX := Lib.hid (RX.out.keep tmFr hk)
  replace RY := Lib.hid (RY.out.keep tmFr hk)
  have hkey : ((w4.alloc (.cells #[.pointer (some ⟨bx, ox, none⟩), .pointer (some ⟨by', oy, none⟩), .int .i64 n] 139)).drew).heap[w4.heap.size]? = some (.cells #[.pointer (some ⟨bx, ox, none⟩), .pointer (some ⟨by', oy, none⟩), .int .i64 n] 139 (0, 0)) := heap_alloc_new w4 _
  have c0 : ((w4.alloc (.cells #[.pointer (some ⟨bx, ox, none⟩), .pointer (some ⟨by', oy, none⟩), .int .i64 n] 139)).drew).cell? ⟨w4.heap.size, 0, none⟩ = some (.pointer (some ⟨bx, ox, none⟩)) := cell_of_row _ _ 0 _ _ _ hkey
  have c1 : ((w4.alloc (.cells #[.pointer (some ⟨bx, ox, none⟩), .pointer (some ⟨by', oy, none⟩), .int .i64 n] 139)).drew).cell? ⟨w4.heap.size, 1, none⟩ = some (.pointer (some ⟨by', oy, none⟩)) := cell_of_row _ _ 1 _ _ _ hkey
  have c2 : ((w4.alloc (.cells #[.pointer (some ⟨bx, ox, none⟩), .pointer (some ⟨by', oy, none⟩), .int .i64 n] 139)).drew).cell? ⟨w4.heap.size, 2, none⟩ = some (.int .i64 n) := cell_of_row _ _ 2 _ _ _ hkey
  clear gB hk hkey
  generalize ((w4.alloc (.cells #[.pointer (some ⟨bx, ox, none⟩), .pointer (some ⟨by', oy, none⟩), .int .i64 n] 139)).drew) = W5 at *
  have m0 : W5.cell? ⟨k.CM, 0, none⟩ = some (.map (some k.M)) := cell_of_row _ _ 0 _ _ _ EN.out.1.2.2.1
  obtain ⟨es, cl0, hm, hE⟩ := EN.out.2.2.1
  have hK : ∀ e ∈ es.toList, KeyE W5 e := fun e he => by
    obtain ⟨hv, b1, o1, b2, o2, xs', ys', k1, _, k3, k4, _⟩ := hE e he
    exact ⟨hv, _, _, _, k1, k3.2.1, k4.2.1⟩
  obtain ⟨c, hl, ht, hf⟩ := look_run (a := ⟨bx, ox, none⟩) (b := ⟨by', oy, none⟩) n hm hK RX.out.2.1 RY.out.2.1
  have HE := Lib.hid hE
  have HMM := Lib.hid hm
  have CLK := Lib.hid (cl_kids x (by have := HN.out; omega))
  clear hE hK hm
  unfold kl at hl
  cases c with
  | true =>
    have hall : AllEq x.ks y.ks := kfound tmLen tmUq HE.out RX.out RY.out HL.out BG.out CLK.out (by rw [← HN.out]; exact ht rfl)
    have F := Lib.hid (TI.out hall)
    clear ht hf hall
    go_wp2_with fail
    go_ret
    exact cmp_true F.out HC.out EN.out
  | false =>
    have hput : (Instr.mapUpdate 136 (.map (some k.M)) (.agg #[.pointer (some ⟨bx, ox, none⟩), .pointer (some ⟨by', oy, none⟩), .int .i64 n]) (.bool true)).run Try.prog W5 = .ok () (kput W5 k.M es cl0 (kl ⟨bx, ox, none⟩ ⟨by', oy, none⟩ n)) := put_run HMM.out (hf rfl)
    have hcp : Chg W5 (kput W5 k.M es cl0 (kl ⟨bx, ox, none⟩ ⟨by', oy, none⟩ n)) (fun b => b = k.M) := kput_chg
    have hk := fun c (hc : Free W5 c) => kfree_keep HMM.out hcp hc
    have hmp6 := kput_mp (S := S) tmFr HMM.out HE.out RX.out RY.out HL.out
    have hbg6 : ∀ u ∈ x.ks, KBig 8 tmE LM.Ok LM.bl LM.sz W5 (fun v => S v ∨ v = kl ⟨bx, ox, none⟩ ⟨by', oy, none⟩ x.ks.length) (2 * u.sz) := fun u hu => KBig.put BG.out RX.out hu CLK.out
    rw [← HN.out] at hmp6 hbg6
    have hty6 : KType.Mp (kput W5 k.M es cl0 (kl ⟨bx, ox, none⟩ ⟨by', oy, none⟩ n)) k.Mt (fun _ => False) := by
      have h3 := EN.out.2.2.2
      have h4 := h3
      obtain ⟨es', cl', hm', _⟩ := h4
      exact KMp.stays KType.tyFr h3 (hcp.2.2.2.2 _ (Array.getElem?_eq_some_iff.1 hm').1 (fun e => hM e.symm)) hk
    have C6 := Lib.hid (HC.out.trans (hcp.mono (fun b hb => Or.inl hb : ∀ b, b = k.M → Tn k b)) (fun _ _ h => h))
    have EN6 := Lib.hid (EN.out.cells hk hmp6 hty6)
    have RX6 := Lib.hid (RX.out.keep tmFr hk)
    have RY6 := Lib.hid (RY.out.keep tmFr hk)
    have BG6 := Lib.hid (fun u hu => (hbg6 u hu).keep tmFr hk)
    clear ht hf hk hmp6 hbg6 hcp hty6
    generalize kput W5 k.M es cl0 (kl ⟨bx, ox, none⟩ ⟨by', oy, none⟩ n) = W6 at *
    have f0 : W6.cell? ⟨k.CF, 0, none⟩ = some (.func (.func 92) #[] #[.pointer (some ⟨k.CK, 0, none⟩), .pointer (some ⟨k.CN, 0, none⟩), .pointer (some ⟨k.CM, 0, none⟩), .pointer (some ⟨k.CF, 0, none⟩)]) := cell_of_row _ _ 0 _ _ _ EN6.out.1.2.2.2.1
    have CXY := Lib.hid (show n ≤ x.cap ∧ m ≤ y.cap from ⟨by rw [HN.out]; exact FX.out.1.kids.1, by rw [HM.out]; exact FY.out.1.kids.1⟩)
    have hnm : n = m := by rw [HN.out, HM.out]; exact HL.out
    have KEY := Lib.hid (eqf' x.ks y.ks ih n m hnm HN.out HM.out (by rw [HN.out]; exact hlx) W6 bx ox by' oy x.cap y.cap k _ CXY.out.1 CXY.out.2 RX6.out RY6.out EN6.out hM BG6.out)
    clear hnm
    go_wp2_with fail
    refine KEY.out.mono ?_
    rintro e w7 ⟨r, rfl, hr, hc7, hm7⟩
    have C7 := Lib.hid (C6.out.trans hc7 (fun _ _ h => h))
    have hk7 := EN6.out.free hc7
    have RX7 := Lib.hid (RX6.out.keep tmFr hk7)
    have RY7 := Lib.hid (RY6.out.keep tmFr hk7)
    clear hk7 hc7 hl hput c0 c1 c2 m0 f0
    cases r with
    | false =>
      have F := Lib.hid (show ¬ x.tm = y.tm from fun h => by
        have h2 := (tm_iff x y).1 h
        have := hr.2 ⟨HL.out, h2.2.2.2.2.2.2⟩
        cases this)
      clear hr hm7
      go_wp2_with fail
      go_ret
      exact cmp_false F.out C7.out
    | true =>
      have HA := Lib.hid (hr.1 rfl)
      have F := Lib.hid (TI.out (hr.1 rfl))
      have M7 := (hm7 rfl).2.2.1
      rw [HN.out] at M7
      have M8 := Lib.hid (show Env k w7 S from (hm7 rfl).cells (fun _ _ => rfl) (KMp.shut tmLen tmUq M7 RX7.out RY7.out HA.out) (hm7 rfl).2.2.2)
      clear hr hm7 M7
      go_wp2_with fail
      go_ret
      exact cmp_true F.out C7.out M8.out

theorem cmp_all (x : LM) : CmpC x := by
  refine LM.ind (P := CmpC) (fun k m n t na nc ns a cap ks ih => ?_) x
  exact cmp_of (.mk k m n t na nc ns a cap ks) ih

end Go.Proofs.Ytpafjhnamdeagaa.Con.KTerm
