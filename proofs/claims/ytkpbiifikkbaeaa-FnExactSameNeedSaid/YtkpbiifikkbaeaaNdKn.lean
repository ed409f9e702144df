/-
  Contracts of the closures of the program's SameNeed, of EqualFunc over frames and over cells, and of SameNeed. Condition: both states lie in blocks of cells.
-/
import Derived.Test.YtkpbiifikkbaeaaKnCore
import Derived.Test.YtkpbiifikkbaeaaKcNd
import Derived.Test.YtkpbiifikkbaeaaNdSm
namespace Go.Proofs.Ytkpbiifikkbaeaa.Con.KNeed
open Go.RowKit Go.Proofs.Ytkpbiifikkbaeaa.Con
set_option linter.unusedVariables false

/-- The three maps of the comparers. -/
def Tw (k k' k2 : Kb) : Nat → Prop := fun b => b = k.M ∨ b = k'.M ∨ b = k2.M
structure Apart (k k' k2 : Kb) : Prop where
  a : k.M ≠ k'.M
  b : k2.M ≠ k.M
  c : k2.M ≠ k'.M
/-- What is around the closures of SameNeed. -/
structure NE (k k' k2 : Kb) (bT bN : Nat) (w : World) : Prop where
  env : KCore.Env k k' w
  mp : KCore.Mp w k.M (fun _ => False)
  cap : KNmS.LCaps k2 w
  mp2 : KNmS.Mp w k2.M (fun _ => False)
  t : w.heap[bT]? = some (.cells #[.func (.func 50) #[] #[.pointer (some ⟨k.CN, 0, none⟩), .pointer (some ⟨k.CL, 0, none⟩), .pointer (some ⟨k.CK, 0, none⟩)]] 53 (0, 0))
  n : w.heap[bN]? = some (.cells #[.func (.func 41) #[] #[.pointer (some ⟨k2.CM, 0, none⟩), .pointer (some ⟨k2.CS, 0, none⟩)]] 55 (0, 0))
def CB (bT bN bC : Nat) (w : World) : Prop := w.heap[bC]? = some (.cells #[.func (.func 19) #[] #[.pointer (some ⟨bT, 0, none⟩), .pointer (some ⟨bN, 0, none⟩)]] 58 (0, 0))
variable {k k' k2 : Kb} {bT bN bC : Nat}
theorem NE.gw {w w' : World} (h : NE k k' k2 bT bN w) (g : Gw w w') : NE k k' k2 bT bN w' :=
  ⟨h.env.gw g, KMp.gw coFr h.mp g, h.cap.keep (KNmS.free_gw g), KMp.gw nFr h.mp2 g, (g.block _ (Array.getElem?_eq_some_iff.1 h.t).1).trans h.t, (g.block _ (Array.getElem?_eq_some_iff.1 h.n).1).trans h.n⟩
theorem CB.gw {w w' : World} (h : CB bT bN bC w) (g : Gw w w') : CB bT bN bC w' := (g.block _ (Array.getElem?_eq_some_iff.1 h).1).trans h
theorem NE.free {w w' : World} (h : NE k k' k2 bT bN w) (hc : Chg w w' (Tw k k' k2)) : ∀ c, Free w c → w'.heap[c]? = w.heap[c]? := fun c hf => by
  refine hc.2.2.2.2 c hf.lt fun e => ?_
  obtain ⟨cs, t, hf⟩ := hf
  rcases e with e | e | e
  · obtain ⟨es, cl, hm, _⟩ := h.mp; rw [e, hm] at hf; cases hf
  · obtain ⟨es, cl, hm, _⟩ := h.env.2.2.2; rw [e, hm] at hf; cases hf
  · obtain ⟨es, cl, hm, _⟩ := h.mp2; rw [e, hm] at hf; cases hf
theorem NE.core {w w' : World} (A : Apart k k' k2) (h : NE k k' k2 bT bN w) (hc : Chg w w' (KCore.Tn k k')) (he : KCore.Env k k' w' ∧ KCore.Mp w' k.M (fun _ => False)) : NE k k' k2 bT bN w' := by
  have hk := Srr.free (KCore.esr k k' A.a) h.env h.mp hc
  obtain ⟨es, cl, hm', hE⟩ := h.mp2
  exact ⟨he.1, he.2, h.cap.keep hk, KMp.stays nFr ⟨es, cl, hm', hE⟩ (hc.2.2.2.2 _ (Array.getElem?_eq_some_iff.1 hm').1 (fun e => e.elim A.b A.c)) hk, (hk _ ⟨_, _, h.t⟩).trans h.t, (hk _ ⟨_, _, h.n⟩).trans h.n⟩
theorem NE.num {w w' : World} (A : Apart k k' k2) (h : NE k k' k2 bT bN w) (hc : Chg w w' (fun b => b = k2.M)) (he : KNmS.LCaps k2 w' ∧ KNmS.Mp w' k2.M (fun _ => False)) : NE k k' k2 bT bN w' := by
  have hk := Srr.free (KNmS.nsr k2) h.cap h.mp2 hc
  obtain ⟨es, cl, hm', hE⟩ := h.mp
  have h3 := h.env.2.2.2
  obtain ⟨es3, cl3, hm3, hE3⟩ := h3
  exact ⟨h.env.cells hk (KMp.stays nFr ⟨es3, cl3, hm3, hE3⟩ (hc.2.2.2.2 _ (Array.getElem?_eq_some_iff.1 hm3).1 (fun e => A.c e.symm)) hk), KMp.stays coFr ⟨es, cl, hm', hE⟩ (hc.2.2.2.2 _ (Array.getElem?_eq_some_iff.1 hm').1 (fun e => A.b e.symm)) hk, he.1, he.2, (hk _ ⟨_, _, h.t⟩).trans h.t, (hk _ ⟨_, _, h.n⟩).trans h.n⟩
theorem tw_core {b : Nat} (h : KCore.Tn k k' b) : Tw k k' k2 b := h.imp id .inl
theorem tw_num {b : Nat} (h : b = k2.M) : Tw k k' k2 b := .inr (.inr h)

/-- Lies in blocks of cells. -/
def gF {α : Type} (ok : World → α → Prop) (cb : α → List Nat) (w : World) (x : α) : Prop := ok w x ∧ ∀ c ∈ cb x, Free w c
theorem gF.keep {α : Type} {ok : World → α → Prop} {cb : α → List Nat} (hf : gFr ok cb) {w w' : World} {x : α} (h : gF ok cb w x) (hk : ∀ c, Free w c → w'.heap[c]? = w.heap[c]?) : gF ok cb w' x :=
  ⟨hf _ _ _ h.1 fun c hc => hk c (h.2 c hc), fun c hc => (h.2 c hc).same (hk c (h.2 c hc))⟩
theorem gF.gw {α : Type} {ok : World → α → Prop} {cb : α → List Nat} (hf : gFr ok cb) {w w' : World} {x : α} (h : gF ok cb w x) (g : Gw w w') : gF ok cb w' x := h.keep hf fun c hc => g.block c hc.lt
theorem gF.new {α : Type} {ok : World → α → Prop} {cb : α → List Nat} {B : Nat} {w : World} {x : α} (h : gNew ok cb B w x) : gF ok cb w x := ⟨h.1, fun c hc => (h.2.2 c hc).2⟩
def gFl {α : Type} (k : Nat) (cE : α → List Value) (ok : World → α → Prop) (cb : α → List Nat) (w : World) (a : Option Addr) (c : Nat) (xs : List α) : Prop := gSl k cE ok w a c xs ∧ ∀ b ∈ nbl cb a xs, Free w b
theorem gFl.keep {α : Type} {k : Nat} {cE : α → List Value} {ok : World → α → Prop} {cb : α → List Nat} (hk0 : 0 < k) (hl : ∀ x, (cE x).length = k) (hf : gFr ok cb) {w w' : World} {a : Option Addr} {c : Nat} {xs : List α} (h : gFl k cE ok cb w a c xs) (hk : ∀ c, Free w c → w'.heap[c]? = w.heap[c]?) : gFl k cE ok cb w' a c xs :=
  ⟨h.1.frame hk0 hl hf fun b hb => hk b (h.2 b hb), fun b hb => (h.2 b hb).same (hk b (h.2 b hb))⟩
theorem gFl.at {α : Type} {k : Nat} {cE : α → List Value} {ok : World → α → Prop} {cb : α → List Nat} {w : World} {a : Option Addr} {c : Nat} {xs : List α} (h : gFl k cE ok cb w a c xs) (j : Nat) (hj : j < xs.length) : ∃ b o, a = some ⟨b, o, none⟩ ∧ Free w b ∧ gAt cE ok w b (o + j * k) xs[j] ∧ gF ok cb w xs[j] := by
  obtain ⟨b, o, ha, hr⟩ := h.1.2.2.resolve_left (fun e => by rw [e] at hj; simp at hj)
  have hne : xs.isEmpty = false := by cases hx : xs with | nil => rw [hx] at hj; simp at hj | cons => rfl
  exact ⟨b, o, ha, h.2 b (by unfold nbl; rw [hne, ha]; simp), hr j hj, (hr j hj).2, fun x hx => h.2 x (nbl_sub (List.getElem_mem hj) x hx)⟩
theorem num_lf {w : World} {a : Option Addr} {c : Nat} {xs : List Int} (h : gFl 1 nE nOk nB w a c xs) : KNmS.LF w a c xs := by
  refine ⟨h.1.1, h.1.2.1, fun hl => ?_⟩
  obtain ⟨b, o, ha, hr⟩ := h.1.2.2.resolve_left (fun e => by rw [e] at hl; simp at hl)
  have hne : xs.isEmpty = false := by cases hx : xs with | nil => rw [hx] at hl; simp at hl | cons => rfl
  exact ⟨b, o, ha, hr, h.2 b (by unfold nbl; rw [hne, ha]; simp), fun u hu c hc => by cases hc⟩
abbrev clF (w : World) (x : LCl) : Prop := gF clOk clB w x
theorem clF.t {w : World} {x : LCl} (h : clF w x) : KCore.FOk w x.t := ⟨h.1.1, fun c hc => h.2 c (List.mem_append_left _ hc)⟩
theorem clF.e {w : World} {x : LCl} (h : clF w x) : gFl 1 nE nOk nB w x.ea x.ec x.e := ⟨h.1.2, fun c hc => h.2 c (List.mem_append_right _ hc)⟩
abbrev frF (w : World) (x : LFr) : Prop := gF frOk frB w x
theorem frF.d {w : World} {x : LFr} (h : frF w x) : gFl 1 nE nOk nB w x.da x.dc x.d := ⟨h.1.2.2.1, fun c hc => h.2 c (List.mem_append_left _ hc)⟩
theorem frF.c {w : World} {x : LFr} (h : frF w x) : clF w x.c := ⟨h.1.2.2.2, fun c hc => h.2 c (List.mem_append_right _ hc)⟩
abbrev thF (w : World) (x : LTh) : Prop := gF thOk thB w x
theorem thF.c {w : World} {x : LTh} (h : thF w x) : clF w x.c := ⟨h.1, fun c hc => h.2 c hc⟩
abbrev ndF (w : World) (x : LNd) : Prop := gF ndOk ndB w x
theorem ndF.c {w : World} {x : LNd} (h : ndF w x) : clF w x.c := ⟨h.1.1, fun c hc => h.2 c (List.mem_append_left _ hc)⟩
theorem ndF.s {w : World} {x : LNd} (h : ndF w x) : gFl 8 frE frOk frB w x.sa x.sc x.s := ⟨h.1.2.1, fun c hc => h.2 c (List.mem_append_right _ (List.mem_append_left _ hc))⟩
theorem ndF.h {w : World} {x : LNd} (h : ndF w x) : gFl 6 thE thOk thB w x.ha x.hc x.h := ⟨h.1.2.2, fun c hc => h.2 c (List.mem_append_right _ (List.mem_append_right _ hc))⟩

/-- What a closure answers. -/
def CP (k k' k2 : Kb) (bT bN : Nat) (p : Prop) (w : World) (e : Ending) (w' : World) : Prop := ∃ r : Bool, e = .returned (.bool r) ∧ (r = true ↔ p) ∧ Chg w w' (Tw k k' k2) ∧ (r = true → NE k k' k2 bT bN w')
theorem cp_false {p : Prop} {w w' : World} (h : ¬ p) (hc : Chg w w' (Tw k k' k2)) : CP k k' k2 bT bN p w (.returned (.bool false)) w' := ⟨false, rfl, by simp [h], hc, fun h => by cases h⟩
theorem cp_true {p : Prop} {w w' : World} (h : p) (hc : Chg w w' (Tw k k' k2)) (hn : NE k k' k2 bT bN w') : CP k k' k2 bT bN p w (.returned (.bool true)) w' := ⟨true, rfl, by simp [h], hc, fun _ => hn⟩

set_option maxRecDepth 100000 in
set_option maxHeartbeats 1000000 in
theorem impl_cl (AP : Apart k k' k2) (x y : LCl) (w : World) (hx : clF w x) (hy : clF w y) (hn : NE k k' k2 bT bN w) : Calls Try.prog 19 #[x.val, y.val, .pointer (some ⟨bT, 0, none⟩), .pointer (some ⟨bN, 0, none⟩)] w (CP k k' k2 bT bN (x.pu = y.pu) w) := by
  have gA : Gw w ((w.alloc (x.obj 38)).alloc (y.obj 38)) := ((Gw.refl w).alloc _).alloc _
  have b1 : clAt ((w.alloc (x.obj 38)).alloc (y.obj 38)) w.heap.size 0 x := gAt.grow clGr (gAt.new clGr (cs := #[.int .i64 x.t.k, .int .i64 x.t.v, .slice x.t.da x.t.ds.length x.t.dc, .slice x.t.a x.t.ks.length x.t.cap, .slice x.ea x.e.length x.ec]) (e := 38) rfl hx.1) ((Gw.refl _).alloc (y.obj 38))
  have b2 : clAt ((w.alloc (x.obj 38)).alloc (y.obj 38)) (w.alloc (x.obj 38)).heap.size 0 y := gAt.new clGr (w := w.alloc (x.obj 38)) (cs := #[.int .i64 y.t.k, .int .i64 y.t.v, .slice y.t.da y.t.ds.length y.t.dc, .slice y.t.a y.t.ks.length y.t.cap, .slice y.ea y.e.length y.ec]) (e := 38) rfl (clGr _ _ _ hy.1 ((Gw.refl w).alloc _))
  rw [World.size_alloc] at b2
  have FX := Lib.hid (hx.gw clFr gA)
  have FY := Lib.hid (hy.gw clFr gA)
  have EN := Lib.hid (hn.gw gA)
  have HC := Lib.hid (Chg.of_gw gA (Tw k k' k2))
  have f1 : Free ((w.alloc (x.obj 38)).alloc (y.obj 38)) w.heap.size := Free.grow (⟨_, _, heap_alloc_new w _⟩ : Free (w.alloc (x.obj 38)) w.heap.size) ((Gw.refl _).alloc _)
  have f2 : Free ((w.alloc (x.obj 38)).alloc (y.obj 38)) (w.heap.size + 1) := by
    have := heap_alloc_new (w.alloc (x.obj 38)) (y.obj 38)
    rw [World.size_alloc] at this
    exact ⟨_, _, this⟩
  clear hx hy hn gA
  go_enter Try.func19, Try.ntmps19
  go_upto_region 1 with (fail)
  generalize ((w.alloc (.cells #[.int .i64 x.t.k, .int .i64 x.t.v, .slice x.t.da x.t.ds.length x.t.dc, .slice x.t.a x.t.ks.length x.t.cap, .slice x.ea x.e.length x.ec] 38)).alloc (.cells #[.int .i64 y.t.k, .int .i64 y.t.v, .slice y.t.da y.t.ds.length y.t.dc, .slice y.t.a y.t.ks.length y.t.cap, .slice y.ea y.e.length y.ec] 38)) = W1 at *
  have p0 := b1.1 0 _ rfl
  have p1 := b1.1 1 _ rfl
  have p2 := b1.1 2 _ rfl
  have p3 := b1.1 3 _ rfl
  have p4 := b1.1 4 _ rfl
  simp only [Nat.zero_add] at p0 p1 p2 p3 p4
  have q0 := b2.1 0 _ rfl
  have q1 := b2.1 1 _ rfl
  have q2 := b2.1 2 _ rfl
  have q3 := b2.1 3 _ rfl
  have q4 := b2.1 4 _ rfl
  simp only [Nat.zero_add] at q0 q1 q2 q3 q4
  have t0 : W1.cell? ⟨bT, 0, none⟩ = some (.func (.func 50) #[] #[.pointer (some ⟨k.CN, 0, none⟩), .pointer (some ⟨k.CL, 0, none⟩), .pointer (some ⟨k.CK, 0, none⟩)]) := cell_of_row _ _ 0 _ _ _ EN.out.t
  have P4 := Lib.hid p4
  have Q4 := Lib.hid q4
  have FR1 := Lib.hid f1
  have FR2 := Lib.hid f2
  clear b1 b2 f1 f2
  go_wp2_with fail
  refine (KCore.cmp_all k k' AP.a x.t y.t W1 (fun _ => False) (clF.t FX.out) (clF.t FY.out) EN.out.env EN.out.mp (fun v hv => hv.elim)).mono ?_
  rintro e w2 ⟨r, rfl, hr, hc, hm⟩
  have C2 := Lib.hid (HC.out.trans (hc.mono (fun b hb => tw_core hb : ∀ b, KCore.Tn k k' b → Tw k k' k2 b)) (fun _ _ h => h))
  clear p0 q0 p1 q1 p2 q2 p3 q3 p4 q4 t0
  cases r with
  | false =>
    have F := Lib.hid (show ¬ x.pu = y.pu from fun e => by have := hr.2 ((cl_iff x y).1 e).1; cases this)
    clear hr hm hc
    go_wp2_with fail
    go_ret
    exact cp_false F.out C2.out
  | true =>
  have H1 := Lib.hid (hr.1 rfl)
  have hk := Srr.free (KCore.esr k k' AP.a) EN.out.env EN.out.mp hc
  have E2 := Lib.hid (EN.out.core AP hc (hm rfl))
  have n0 : w2.cell? ⟨bN, 0, none⟩ = some (.func (.func 41) #[] #[.pointer (some ⟨k2.CM, 0, none⟩), .pointer (some ⟨k2.CS, 0, none⟩)]) := cell_of_row _ _ 0 _ _ _ E2.out.n
  have z4 : w2.cell? ⟨w.heap.size, 4, none⟩ = some (.slice x.ea x.e.length x.ec) := (World.cell?_of_block (a := ⟨w.heap.size, 4, none⟩) (hk _ FR1.out)).trans P4.out
  have y4 : w2.cell? ⟨w.heap.size + 1, 4, none⟩ = some (.slice y.ea y.e.length y.ec) := (World.cell?_of_block (a := ⟨w.heap.size + 1, 4, none⟩) (hk _ FR2.out)).trans Q4.out
  have KEY := Lib.hid (KNmS.list_all k2 x.e y.e w2 x.ea y.ea x.ec y.ec (num_lf ((clF.e FX.out).keep (by decide) nLen nFr hk)) (num_lf ((clF.e FY.out).keep (by decide) nLen nFr hk)) E2.out.cap E2.out.mp2)
  clear hr hm hc hk
  go_wp2_with fail
  refine KEY.out.mono ?_
  rintro e w3 ⟨r, rfl, hr, hc, hm⟩
  have C3 := Lib.hid (C2.out.trans (hc.mono (fun b hb => tw_num hb : ∀ b, b = k2.M → Tw k k' k2 b)) (fun _ _ h => h))
  have HR := Lib.hid (hr.trans (show x.e = y.e ↔ x.pu = y.pu from ⟨fun e => (cl_iff x y).2 ⟨H1.out, e⟩, fun e => ((cl_iff x y).1 e).2⟩))
  have E3 := Lib.hid (show r = true → NE k k' k2 bT bN w3 from fun e => E2.out.num AP hc (hm e))
  clear hr hc hm z4 y4 n0 KEY
  go_wp2_with fail
  go_ret
  exact ⟨r, rfl, HR.out, C3.out, E3.out⟩

set_option maxRecDepth 100000 in
set_option maxHeartbeats 1000000 in
theorem impl_fr (AP : Apart k k' k2) (x y : LFr) (w : World) (hx : frF w x) (hy : frF w y) (hn : NE k k' k2 bT bN w) (hcb : CB bT bN bC w) : Calls Try.prog 20 #[x.val, y.val, .pointer (some ⟨bN, 0, none⟩), .pointer (some ⟨bC, 0, none⟩)] w (CP k k' k2 bT bN (x.pu = y.pu) w) := by
  have gA : Gw w ((w.alloc (x.obj 60)).alloc (y.obj 60)) := ((Gw.refl w).alloc _).alloc _
  have b1 : frAt ((w.alloc (x.obj 60)).alloc (y.obj 60)) w.heap.size 0 x := gAt.grow frGr (gAt.new frGr (cs := #[.int .i64 x.k, .int .i64 x.v, .slice x.da x.d.length x.dc, .int .i64 x.c.t.k, .int .i64 x.c.t.v, .slice x.c.t.da x.c.t.ds.length x.c.t.dc, .slice x.c.t.a x.c.t.ks.length x.c.t.cap, .slice x.c.ea x.c.e.length x.c.ec]) (e := 60) rfl hx.1) ((Gw.refl _).alloc (y.obj 60))
  have b2 : frAt ((w.alloc (x.obj 60)).alloc (y.obj 60)) (w.alloc (x.obj 60)).heap.size 0 y := gAt.new frGr (w := w.alloc (x.obj 60)) (cs := #[.int .i64 y.k, .int .i64 y.v, .slice y.da y.d.length y.dc, .int .i64 y.c.t.k, .int .i64 y.c.t.v, .slice y.c.t.da y.c.t.ds.length y.c.t.dc, .slice y.c.t.a y.c.t.ks.length y.c.t.cap, .slice y.c.ea y.c.e.length y.c.ec]) (e := 60) rfl (frGr _ _ _ hy.1 ((Gw.refl w).alloc _))
  rw [World.size_alloc] at b2
  have FX := Lib.hid (hx.gw frFr gA)
  have FY := Lib.hid (hy.gw frFr gA)
  have EN := Lib.hid (hn.gw gA)
  have HC := Lib.hid (Chg.of_gw gA (Tw k k' k2))
  have f1 : Free ((w.alloc (x.obj 60)).alloc (y.obj 60)) w.heap.size := Free.grow (⟨_, _, heap_alloc_new w _⟩ : Free (w.alloc (x.obj 60)) w.heap.size) ((Gw.refl _).alloc _)
  have f2 : Free ((w.alloc (x.obj 60)).alloc (y.obj 60)) (w.heap.size + 1) := by
    have := heap_alloc_new (w.alloc (x.obj 60)) (y.obj 60)
    rw [World.size_alloc] at this
    exact ⟨_, _, this⟩
  have CBB := Lib.hid (hcb.gw gA)
  clear hx hy hn gA hcb
  go_enter Try.func20, Try.ntmps20
  go_upto_region 1 with (fail)
  generalize ((w.alloc (.cells #[.int .i64 x.k, .int .i64 x.v, .slice x.da x.d.length x.dc, .int .i64 x.c.t.k, .int .i64 x.c.t.v, .slice x.c.t.da x.c.t.ds.length x.c.t.dc, .slice x.c.t.a x.c.t.ks.length x.c.t.cap, .slice x.c.ea x.c.e.length x.c.ec] 60)).alloc (.cells #[.int .i64 y.k, .int .i64 y.v, .slice y.da y.d.length y.dc, .int .i64 y.c.t.k, .int .i64 y.c.t.v, .slice y.c.t.da y.c.t.ds.length y.c.t.dc, .slice y.c.t.a y.c.t.ks.length y.c.t.cap, .slice y.c.ea y.c.e.length y.c.ec] 60)) = W1 at *
  have p0 := b1.1 0 _ rfl
  have p1 := b1.1 1 _ rfl
  have p2 := b1.1 2 _ rfl
  have p3 := b1.1 3 _ rfl
  have p4 := b1.1 4 _ rfl
  have p5 := b1.1 5 _ rfl
  have p6 := b1.1 6 _ rfl
  have p7 := b1.1 7 _ rfl
  simp only [Nat.zero_add] at p0 p1 p2 p3 p4 p5 p6 p7
  have q0 := b2.1 0 _ rfl
  have q1 := b2.1 1 _ rfl
  have q2 := b2.1 2 _ rfl
  have q3 := b2.1 3 _ rfl
  have q4 := b2.1 4 _ rfl
  have q5 := b2.1 5 _ rfl
  have q6 := b2.1 6 _ rfl
  have q7 := b2.1 7 _ rfl
  simp only [Nat.zero_add] at q0 q1 q2 q3 q4 q5 q6 q7
  have n0 : W1.cell? ⟨bN, 0, none⟩ = some (.func (.func 41) #[] #[.pointer (some ⟨k2.CM, 0, none⟩), .pointer (some ⟨k2.CS, 0, none⟩)]) := cell_of_row _ _ 0 _ _ _ EN.out.n
  have PP := Lib.hid b1
  have QQ := Lib.hid b2
  have FR1 := Lib.hid f1
  have FR2 := Lib.hid f2
  clear b1 b2 f1 f2
  by_cases h1 : x.k = y.k
  rotate_left
  · have d1 : (x.k == y.k) = false := by simpa using h1
    have F := Lib.hid (show ¬ x.pu = y.pu from fun e => h1 ((fr_iff x y).1 e).1)
    clear h1
    go_wp2_with fail
    go_ret
    exact cp_false F.out HC.out
  have d1 : (x.k == y.k) = true := by simpa using h1
  have H1 := Lib.hid h1
  clear h1
  by_cases h2 : x.v = y.v
  rotate_left
  · have d2 : (x.v == y.v) = false := by simpa using h2
    have F := Lib.hid (show ¬ x.pu = y.pu from fun e => h2 ((fr_iff x y).1 e).2.1)
    clear h2
    go_wp2_with fail
    go_ret
    exact cp_false F.out HC.out
  have d2 : (x.v == y.v) = true := by simpa using h2
  have H2 := Lib.hid h2
  clear h2
  have KEY := Lib.hid (KNmS.list_all k2 x.d y.d W1 x.da y.da x.dc y.dc (num_lf (frF.d FX.out)) (num_lf (frF.d FY.out)) EN.out.cap EN.out.mp2)
  go_wp2_with fail
  refine KEY.out.mono ?_
  rintro e w2 ⟨r, rfl, hr, hc, hm⟩
  have C2 := Lib.hid (HC.out.trans (hc.mono (fun b hb => tw_num hb : ∀ b, b = k2.M → Tw k k' k2 b)) (fun _ _ h => h))
  clear p0 q0 p1 q1 p2 q2 p3 q3 p4 q4 p5 q5 p6 q6 p7 q7 n0 KEY
  cases r with
  | false =>
    have F := Lib.hid (show ¬ x.pu = y.pu from fun e => by have := hr.2 ((fr_iff x y).1 e).2.2.1; cases this)
    clear hr hm hc
    go_wp2_with fail
    go_ret
    exact cp_false F.out C2.out
  | true =>
  have H3 := Lib.hid (hr.1 rfl)
  have hk := Srr.free (KNmS.nsr k2) EN.out.cap EN.out.mp2 hc
  have E2 := Lib.hid (EN.out.num AP hc (hm rfl))
  have m0 : w2.cell? ⟨bC, 0, none⟩ = some (.func (.func 19) #[] #[.pointer (some ⟨bT, 0, none⟩), .pointer (some ⟨bN, 0, none⟩)]) := (World.cell?_of_block (a := ⟨bC, 0, none⟩) (hk _ ⟨_, _, CBB.out⟩)).trans (cell_of_row _ _ 0 _ _ _ CBB.out)
  have z3 : w2.cell? ⟨w.heap.size, 3, none⟩ = some (.int .i64 x.c.t.k) := (World.cell?_of_block (a := ⟨w.heap.size, 3, none⟩) (hk _ FR1.out)).trans (PP.out.1 3 _ rfl)
  have y3 : w2.cell? ⟨w.heap.size + 1, 3, none⟩ = some (.int .i64 y.c.t.k) := (World.cell?_of_block (a := ⟨w.heap.size + 1, 3, none⟩) (hk _ FR2.out)).trans (QQ.out.1 3 _ rfl)
  have z4 : w2.cell? ⟨w.heap.size, 4, none⟩ = some (.int .i64 x.c.t.v) := (World.cell?_of_block (a := ⟨w.heap.size, 4, none⟩) (hk _ FR1.out)).trans (PP.out.1 4 _ rfl)
  have y4 : w2.cell? ⟨w.heap.size + 1, 4, none⟩ = some (.int .i64 y.c.t.v) := (World.cell?_of_block (a := ⟨w.heap.size + 1, 4, none⟩) (hk _ FR2.out)).trans (QQ.out.1 4 _ rfl)
  have z5 : w2.cell? ⟨w.heap.size, 5, none⟩ = some (.slice x.c.t.da x.c.t.ds.length x.c.t.dc) := (World.cell?_of_block (a := ⟨w.heap.size, 5, none⟩) (hk _ FR1.out)).trans (PP.out.1 5 _ rfl)
  have y5 : w2.cell? ⟨w.heap.size + 1, 5, none⟩ = some (.slice y.c.t.da y.c.t.ds.length y.c.t.dc) := (World.cell?_of_block (a := ⟨w.heap.size + 1, 5, none⟩) (hk _ FR2.out)).trans (QQ.out.1 5 _ rfl)
  have z6 : w2.cell? ⟨w.heap.size, 6, none⟩ = some (.slice x.c.t.a x.c.t.ks.length x.c.t.cap) := (World.cell?_of_block (a := ⟨w.heap.size, 6, none⟩) (hk _ FR1.out)).trans (PP.out.1 6 _ rfl)
  have y6 : w2.cell? ⟨w.heap.size + 1, 6, none⟩ = some (.slice y.c.t.a y.c.t.ks.length y.c.t.cap) := (World.cell?_of_block (a := ⟨w.heap.size + 1, 6, none⟩) (hk _ FR2.out)).trans (QQ.out.1 6 _ rfl)
  have z7 : w2.cell? ⟨w.heap.size, 7, none⟩ = some (.slice x.c.ea x.c.e.length x.c.ec) := (World.cell?_of_block (a := ⟨w.heap.size, 7, none⟩) (hk _ FR1.out)).trans (PP.out.1 7 _ rfl)
  have y7 : w2.cell? ⟨w.heap.size + 1, 7, none⟩ = some (.slice y.c.ea y.c.e.length y.c.ec) := (World.cell?_of_block (a := ⟨w.heap.size + 1, 7, none⟩) (hk _ FR2.out)).trans (QQ.out.1 7 _ rfl)
  have KEY := Lib.hid (impl_cl AP x.c y.c w2 ((frF.c FX.out).keep clFr hk) ((frF.c FY.out).keep clFr hk) E2.out)
  clear hr hm hc hk
  go_wp2_with fail
  refine KEY.out.mono ?_
  rintro e w3 ⟨r, rfl, hr, hc, hm⟩
  have C3 := Lib.hid (C2.out.trans hc (fun _ _ h => h))
  have HR := Lib.hid (hr.trans (show x.c.pu = y.c.pu ↔ x.pu = y.pu from ⟨fun e => (fr_iff x y).2 ⟨H1.out, H2.out, H3.out, e⟩, fun e => ((fr_iff x y).1 e).2.2.2⟩))
  have E3 := Lib.hid hm
  clear hr hc hm z3 y3 z4 y4 z5 y5 z6 y6 z7 y7 m0 KEY
  go_wp2_with fail
  go_ret
  exact ⟨r, rfl, HR.out, C3.out, E3.out⟩

set_option maxRecDepth 100000 in
set_option maxHeartbeats 1000000 in
theorem impl_th (AP : Apart k k' k2) (x y : LTh) (w : World) (hx : thF w x) (hy : thF w y) (hn : NE k k' k2 bT bN w) (hcb : CB bT bN bC w) : Calls Try.prog 21 #[x.val, y.val, .pointer (some ⟨bC, 0, none⟩)] w (CP k k' k2 bT bN (x.pu = y.pu) w) := by
  have gA : Gw w ((w.alloc (x.obj 63)).alloc (y.obj 63)) := ((Gw.refl w).alloc _).alloc _
  have b1 : thAt ((w.alloc (x.obj 63)).alloc (y.obj 63)) w.heap.size 0 x := gAt.grow thGr (gAt.new thGr (cs := #[.bool x.b, .int .i64 x.c.t.k, .int .i64 x.c.t.v, .slice x.c.t.da x.c.t.ds.length x.c.t.dc, .slice x.c.t.a x.c.t.ks.length x.c.t.cap, .slice x.c.ea x.c.e.length x.c.ec]) (e := 63) rfl hx.1) ((Gw.refl _).alloc (y.obj 63))
  have b2 : thAt ((w.alloc (x.obj 63)).alloc (y.obj 63)) (w.alloc (x.obj 63)).heap.size 0 y := gAt.new thGr (w := w.alloc (x.obj 63)) (cs := #[.bool y.b, .int .i64 y.c.t.k, .int .i64 y.c.t.v, .slice y.c.t.da y.c.t.ds.length y.c.t.dc, .slice y.c.t.a y.c.t.ks.length y.c.t.cap, .slice y.c.ea y.c.e.length y.c.ec]) (e := 63) rfl (thGr _ _ _ hy.1 ((Gw.refl w).alloc _))
  rw [World.size_alloc] at b2
  have FX := Lib.hid (hx.gw thFr gA)
  have FY := Lib.hid (hy.gw thFr gA)
  have EN := Lib.hid (hn.gw gA)
  have HC := Lib.hid (Chg.of_gw gA (Tw k k' k2))
  have f1 : Free ((w.alloc (x.obj 63)).alloc (y.obj 63)) w.heap.size := Free.grow (⟨_, _, heap_alloc_new w _⟩ : Free (w.alloc (x.obj 63)) w.heap.size) ((Gw.refl _).alloc _)
  have f2 : Free ((w.alloc (x.obj 63)).alloc (y.obj 63)) (w.heap.size + 1) := by
    have := heap_alloc_new (w.alloc (x.obj 63)) (y.obj 63)
    rw [World.size_alloc] at this
    exact ⟨_, _, this⟩
  have CBB := Lib.hid (hcb.gw gA)
  have M0 := Lib.hid (cell_of_row _ _ 0 _ _ _ CBB.out)
  clear hx hy hn gA hcb
  go_enter Try.func21, Try.ntmps21
  go_upto_region 1 with (fail)
  generalize ((w.alloc (.cells #[.bool x.b, .int .i64 x.c.t.k, .int .i64 x.c.t.v, .slice x.c.t.da x.c.t.ds.length x.c.t.dc, .slice x.c.t.a x.c.t.ks.length x.c.t.cap, .slice x.c.ea x.c.e.length x.c.ec] 63)).alloc (.cells #[.bool y.b, .int .i64 y.c.t.k, .int .i64 y.c.t.v, .slice y.c.t.da y.c.t.ds.length y.c.t.dc, .slice y.c.t.a y.c.t.ks.length y.c.t.cap, .slice y.c.ea y.c.e.length y.c.ec] 63)) = W1 at *
  have p0 := b1.1 0 _ rfl
  have p1 := b1.1 1 _ rfl
  have p2 := b1.1 2 _ rfl
  have p3 := b1.1 3 _ rfl
  have p4 := b1.1 4 _ rfl
  have p5 := b1.1 5 _ rfl
  simp only [Nat.zero_add] at p0 p1 p2 p3 p4 p5
  have q0 := b2.1 0 _ rfl
  have q1 := b2.1 1 _ rfl
  have q2 := b2.1 2 _ rfl
  have q3 := b2.1 3 _ rfl
  have q4 := b2.1 4 _ rfl
  have q5 := b2.1 5 _ rfl
  simp only [Nat.zero_add] at q0 q1 q2 q3 q4 q5
  clear b1 b2 f1 f2
  by_cases h1 : x.b = y.b
  rotate_left
  · have d1 : y.b = !x.b := by cases hu : x.b <;> cases hv : y.b <;> simp_all
    rw [d1] at q0
    have F := Lib.hid (show ¬ x.pu = y.pu from fun e => h1 ((th_iff x y).1 e).1)
    clear h1 d1
    go_wp2_with fail
    go_ret
    exact cp_false F.out HC.out
  rw [← h1] at q0
  have H1 := Lib.hid h1
  have m0 : W1.cell? ⟨bC, 0, none⟩ = some (.func (.func 19) #[] #[.pointer (some ⟨bT, 0, none⟩), .pointer (some ⟨bN, 0, none⟩)]) := M0.out
  have KEY := Lib.hid (impl_cl AP x.c y.c W1 (thF.c FX.out) (thF.c FY.out) EN.out)
  clear h1
  go_wp2_with fail
  refine KEY.out.mono ?_
  rintro e w3 ⟨r, rfl, hr, hc, hm⟩
  have C3 := Lib.hid (HC.out.trans hc (fun _ _ h => h))
  have HR := Lib.hid (hr.trans (show x.c.pu = y.c.pu ↔ x.pu = y.pu from ⟨fun e => (th_iff x y).2 ⟨H1.out, e⟩, fun e => ((th_iff x y).1 e).2⟩))
  have E3 := Lib.hid hm
  clear hr hc hm p0 q0 p1 q1 p2 q2 p3 q3 p4 q4 p5 q5 m0 KEY
  go_wp2_with fail
  go_ret
  exact ⟨r, rfl, HR.out, C3.out, E3.out⟩

set_option maxRecDepth 100000 in
set_option maxHeartbeats 2000000 in
theorem eqf_fr (AP : Apart k k' k2) (xs ys : List LFr) (w : World) (a a' : Option Addr) (c c' : Nat) (hx : gFl 8 frE frOk frB w a c xs) (hy : gFl 8 frE frOk frB w a' c' ys) (hn : NE k k' k2 bT bN w) (hcb : CB bT bN bC w) :
    Calls Try.prog 22 #[.slice a xs.length c, .slice a' ys.length c', .func (.func 20) #[] #[.pointer (some ⟨bN, 0, none⟩), .pointer (some ⟨bC, 0, none⟩)]] w (CP k k' k2 bT bN (xs.map LFr.pu = ys.map LFr.pu) w) := by
  have hlx : xs.length ≤ 9223372036854775807 := Nat.le_trans hx.1.1 hx.1.2.1
  have hly : ys.length ≤ 9223372036854775807 := Nat.le_trans hy.1.1 hy.1.2.1
  have RX := Lib.hid hx
  have RY := Lib.hid hy
  have EN := Lib.hid hn
  have CBB := Lib.hid hcb
  obtain ⟨n, hn⟩ : ∃ n, n = xs.length := ⟨_, rfl⟩
  obtain ⟨m, hm⟩ : ∃ m, m = ys.length := ⟨_, rfl⟩
  rw [← hn] at hlx ⊢
  rw [← hm] at hly ⊢
  have HN := Lib.hid hn
  have HM := Lib.hid hm
  clear hx hy hcb hn hm
  by_cases hnm : n = m
  rotate_left
  · have q1 : ((n : Int) != (m : Int)) = true := by simp; omega
    have F := Lib.hid (show ¬ xs.map LFr.pu = ys.map LFr.pu from fun e => hnm (by rw [HN.out, HM.out]; exact ((map_eq_iff _ _ _).1 e).1))
    clear hnm
    go_enter Try.func22, Try.ntmps22
    go_wp2_with fail
    go_ret
    exact cp_false F.out (Chg.of_gw (Gw.refl _) _)
  subst hnm
  have hnn : ((n : Int) != (n : Int)) = false := by simp
  go_enter Try.func22, Try.ntmps22
  go_wp2_with fail
  clear hnn
  go_loopw [17] (fun i wr => ∃ j : Nat, j ≤ n ∧ i = .int .i64 j ∧ Chg w wr (Tw k k' k2) ∧ NE k k' k2 bT bN wr ∧ ∀ i (hx : i < xs.length) (hy : i < ys.length), i < j → xs[i].pu = ys[i].pu) (fun i _ => n - (intOf i).toNat)
  case atStart => exact ⟨0, Nat.zero_le _, rfl, Chg.of_gw (Gw.refl _) _, EN.out, fun i _ _ h => absurd h (by omega)⟩
  case round =>
    obtain ⟨j, hj, rfl, hc, hm, hall⟩ := hrel
    have HC := Lib.hid hc
    have HNE := Lib.hid hm
    have HALL := Lib.hid hall
    have hk := EN.out.free hc
    have RX3 := Lib.hid (RX.out.keep (by decide) frLen frFr hk)
    have RY3 := Lib.hid (RY.out.keep (by decide) frLen frFr hk)
    have CB3 := Lib.hid (show CB bT bN bC wr from (hk _ ⟨_, _, CBB.out⟩).trans CBB.out)
    clear hc hm hall hk
    by_cases hlt : j < n
    · have hjx : j < xs.length := by have := HN.out; omega
      have hjy : j < ys.length := by have := HM.out; omega
      obtain ⟨b, o, rfl, fb, ax, fx⟩ := RX3.out.at j hjx
      obtain ⟨b', o', rfl, fb', ay, fy⟩ := RY3.out.at j hjy
      obtain ⟨u, hu⟩ : ∃ u, u = xs[j] := ⟨_, rfl⟩
      obtain ⟨v, hv⟩ : ∃ v, v = ys[j] := ⟨_, rfl⟩
      rw [← hu] at ax fx
      rw [← hv] at ay fy
      have c0 := ax.1 0 _ rfl
      have d0 := ay.1 0 _ rfl
      have c1 := ax.1 1 _ rfl
      have d1 := ay.1 1 _ rfl
      have c2 := ax.1 2 _ rfl
      have d2 := ay.1 2 _ rfl
      have c3 := ax.1 3 _ rfl
      have d3 := ay.1 3 _ rfl
      have c4 := ax.1 4 _ rfl
      have d4 := ay.1 4 _ rfl
      have c5 := ax.1 5 _ rfl
      have d5 := ay.1 5 _ rfl
      have c6 := ax.1 6 _ rfl
      have d6 := ay.1 6 _ rfl
      have c7 := ax.1 7 _ rfl
      have d7 := ay.1 7 _ rfl
      rw [Nat.add_zero] at c0 d0
      have HU := Lib.hid hu
      have HV := Lib.hid hv
      have FX := Lib.hid fx
      have FY := Lib.hid fy
      have r0 : (0 : Int) ≤ j := by omega
      have r1 : (j : Int) < n := by omega
      have lX : b < wr.heap.size := cell_lt c0
      have lY : b' < wr.heap.size := cell_lt d0
      clear fx fy fb fb' ax ay hu hv
      go_upto_region 7 with (fail)
      have gA : Gw wr ((wr.alloc (.cells #[.int .i64 u.k, .int .i64 u.v, .slice u.da u.d.length u.dc, .int .i64 u.c.t.k, .int .i64 u.c.t.v, .slice u.c.t.da u.c.t.ds.length u.c.t.dc, .slice u.c.t.a u.c.t.ks.length u.c.t.cap, .slice u.c.ea u.c.e.length u.c.ec] 60)).alloc (.cells #[.int .i64 v.k, .int .i64 v.v, .slice v.da v.d.length v.dc, .int .i64 v.c.t.k, .int .i64 v.c.t.v, .slice v.c.t.da v.c.t.ds.length v.c.t.dc, .slice v.c.t.a v.c.t.ks.length v.c.t.cap, .slice v.c.ea v.c.e.length v.c.ec] 60)) := ((Gw.refl wr).alloc _).alloc _
      have b1 : frAt ((wr.alloc (.cells #[.int .i64 u.k, .int .i64 u.v, .slice u.da u.d.length u.dc, .int .i64 u.c.t.k, .int .i64 u.c.t.v, .slice u.c.t.da u.c.t.ds.length u.c.t.dc, .slice u.c.t.a u.c.t.ks.length u.c.t.cap, .slice u.c.ea u.c.e.length u.c.ec] 60)).alloc (.cells #[.int .i64 v.k, .int .i64 v.v, .slice v.da v.d.length v.dc, .int .i64 v.c.t.k, .int .i64 v.c.t.v, .slice v.c.t.da v.c.t.ds.length v.c.t.dc, .slice v.c.t.a v.c.t.ks.length v.c.t.cap, .slice v.c.ea v.c.e.length v.c.ec] 60)) wr.heap.size 0 u := gAt.grow frGr (gAt.new frGr (cs := #[.int .i64 u.k, .int .i64 u.v, .slice u.da u.d.length u.dc, .int .i64 u.c.t.k, .int .i64 u.c.t.v, .slice u.c.t.da u.c.t.ds.length u.c.t.dc, .slice u.c.t.a u.c.t.ks.length u.c.t.cap, .slice u.c.ea u.c.e.length u.c.ec]) (e := 60) rfl FX.out.1) ((Gw.refl _).alloc _)
      have b2 : frAt ((wr.alloc (.cells #[.int .i64 u.k, .int .i64 u.v, .slice u.da u.d.length u.dc, .int .i64 u.c.t.k, .int .i64 u.c.t.v, .slice u.c.t.da u.c.t.ds.length u.c.t.dc, .slice u.c.t.a u.c.t.ks.length u.c.t.cap, .slice u.c.ea u.c.e.length u.c.ec] 60)).alloc (.cells #[.int .i64 v.k, .int .i64 v.v, .slice v.da v.d.length v.dc, .int .i64 v.c.t.k, .int .i64 v.c.t.v, .slice v.c.t.da v.c.t.ds.length v.c.t.dc, .slice v.c.t.a v.c.t.ks.length v.c.t.cap, .slice v.c.ea v.c.e.length v.c.ec] 60)) (wr.alloc (.cells #[.int .i64 u.k, .int .i64 u.v, .slice u.da u.d.length u.dc, .int .i64 u.c.t.k, .int .i64 u.c.t.v, .slice u.c.t.da u.c.t.ds.length u.c.t.dc, .slice u.c.t.a u.c.t.ks.length u.c.t.cap, .slice u.c.ea u.c.e.length u.c.ec] 60)).heap.size 0 v := gAt.new frGr (w := wr.alloc (.cells #[.int .i64 u.k, .int .i64 u.v, .slice u.da u.d.length u.dc, .int .i64 u.c.t.k, .int .i64 u.c.t.v, .slice u.c.t.da u.c.t.ds.length u.c.t.dc, .slice u.c.t.a u.c.t.ks.length u.c.t.cap, .slice u.c.ea u.c.e.length u.c.ec] 60)) (cs := #[.int .i64 v.k, .int .i64 v.v, .slice v.da v.d.length v.dc, .int .i64 v.c.t.k, .int .i64 v.c.t.v, .slice v.c.t.da v.c.t.ds.length v.c.t.dc, .slice v.c.t.a v.c.t.ks.length v.c.t.cap, .slice v.c.ea v.c.e.length v.c.ec]) (e := 60) rfl (frGr _ _ _ FY.out.1 ((Gw.refl wr).alloc _))
      rw [World.size_alloc] at b2
      have KEY := Lib.hid (impl_fr AP u v ((wr.alloc (.cells #[.int .i64 u.k, .int .i64 u.v, .slice u.da u.d.length u.dc, .int .i64 u.c.t.k, .int .i64 u.c.t.v, .slice u.c.t.da u.c.t.ds.length u.c.t.dc, .slice u.c.t.a u.c.t.ks.length u.c.t.cap, .slice u.c.ea u.c.e.length u.c.ec] 60)).alloc (.cells #[.int .i64 v.k, .int .i64 v.v, .slice v.da v.d.length v.dc, .int .i64 v.c.t.k, .int .i64 v.c.t.v, .slice v.c.t.da v.c.t.ds.length v.c.t.dc, .slice v.c.t.a v.c.t.ks.length v.c.t.cap, .slice v.c.ea v.c.e.length v.c.ec] 60)) (FX.out.gw frFr gA) (FY.out.gw frFr gA) (HNE.out.gw gA) (CB3.out.gw gA))
      have GA := Lib.hid (HC.out.trans (Chg.of_gw gA (Tw k k' k2)) (fun _ _ h => h))
      clear c0 d0 c1 d1 c2 d2 c3 d3 c4 d4 c5 d5 c6 d6 c7 d7 lX lY
      generalize ((wr.alloc (.cells #[.int .i64 u.k, .int .i64 u.v, .slice u.da u.d.length u.dc, .int .i64 u.c.t.k, .int .i64 u.c.t.v, .slice u.c.t.da u.c.t.ds.length u.c.t.dc, .slice u.c.t.a u.c.t.ks.length u.c.t.cap, .slice u.c.ea u.c.e.length u.c.ec] 60)).alloc (.cells #[.int .i64 v.k, .int .i64 v.v, .slice v.da v.d.length v.dc, .int .i64 v.c.t.k, .int .i64 v.c.t.v, .slice v.c.t.da v.c.t.ds.length v.c.t.dc, .slice v.c.t.a v.c.t.ks.length v.c.t.cap, .slice v.c.ea v.c.e.length v.c.ec] 60)) = W at *
      have z0 := b1.1 0 _ rfl
      have y0 := b2.1 0 _ rfl
      have z1 := b1.1 1 _ rfl
      have y1 := b2.1 1 _ rfl
      have z2 := b1.1 2 _ rfl
      have y2 := b2.1 2 _ rfl
      have z3 := b1.1 3 _ rfl
      have y3 := b2.1 3 _ rfl
      have z4 := b1.1 4 _ rfl
      have y4 := b2.1 4 _ rfl
      have z5 := b1.1 5 _ rfl
      have y5 := b2.1 5 _ rfl
      have z6 := b1.1 6 _ rfl
      have y6 := b2.1 6 _ rfl
      have z7 := b1.1 7 _ rfl
      have y7 := b2.1 7 _ rfl
      simp only [Nat.zero_add] at z0 y0 z1 y1 z2 y2 z3 y3 z4 y4 z5 y5 z6 y6 z7 y7
      clear gA b1 b2
      go_wp2_with fail
      refine KEY.out.mono ?_
      rintro e w4 ⟨r, rfl, hr, hc4, hm4⟩
      have C4 := Lib.hid (GA.out.trans hc4 (fun _ _ h => h))
      clear z0 y0 z1 y1 z2 y2 z3 y3 z4 y4 z5 y5 z6 y6 z7 y7 KEY hc4
      cases r with
      | false =>
        have F := Lib.hid (show ¬ xs.map LFr.pu = ys.map LFr.pu from fun e => by have := hr.2 (by rw [HU.out, HV.out]; exact ((map_eq_iff _ _ _).1 e).2 j hjx hjy); cases this)
        clear hr hm4
        go_wp2_with fail
        go_ret
        exact cp_false F.out C4.out
      | true =>
        have HE := Lib.hid (show xs[j].pu = ys[j].pu by have := hr.1 rfl; rwa [HU.out, HV.out] at this)
        have HM4 := Lib.hid (hm4 rfl)
        clear hr hm4
        go_wp2_with fail
        go_roundw
        case rel =>
          refine ⟨j + 1, by omega, by go_num, C4.out, HM4.out, fun i hx hy hi => ?_⟩
          by_cases e : i = j
          · subst e; exact HE.out
          · exact HALL.out i hx hy (by omega)
        case measure => simp [intOf]; omega
    · obtain rfl : j = n := by omega
      have F := Lib.hid (show xs.map LFr.pu = ys.map LFr.pu from (map_eq_iff _ _ _).2 ⟨HN.out.symm.trans HM.out, fun i hx hy => HALL.out i hx hy (by have := HN.out; omega)⟩)
      go_wp2_with fail
      go_ret
      exact cp_true F.out HC.out HNE.out

set_option maxRecDepth 100000 in
set_option maxHeartbeats 2000000 in
theorem eqf_th (AP : Apart k k' k2) (xs ys : List LTh) (w : World) (a a' : Option Addr) (c c' : Nat) (hx : gFl 6 thE thOk thB w a c xs) (hy : gFl 6 thE thOk thB w a' c' ys) (hn : NE k k' k2 bT bN w) (hcb : CB bT bN bC w) :
    Calls Try.prog 23 #[.slice a xs.length c, .slice a' ys.length c', .func (.func 21) #[] #[.pointer (some ⟨bC, 0, none⟩)]] w (CP k k' k2 bT bN (xs.map LTh.pu = ys.map LTh.pu) w) := by
  have hlx : xs.length ≤ 9223372036854775807 := Nat.le_trans hx.1.1 hx.1.2.1
  have hly : ys.length ≤ 9223372036854775807 := Nat.le_trans hy.1.1 hy.1.2.1
  have RX := Lib.hid hx
  have RY := Lib.hid hy
  have EN := Lib.hid hn
  have CBB := Lib.hid hcb
  obtain ⟨n, hn⟩ : ∃ n, n = xs.length := ⟨_, rfl⟩
  obtain ⟨m, hm⟩ : ∃ m, m = ys.length := ⟨_, rfl⟩
  rw [← hn] at hlx ⊢
  rw [← hm] at hly ⊢
  have HN := Lib.hid hn
  have HM := Lib.hid hm
  clear hx hy hcb hn hm
  by_cases hnm : n = m
  rotate_left
  · have q1 : ((n : Int) != (m : Int)) = true := by simp; omega
    have F := Lib.hid (show ¬ xs.map LTh.pu = ys.map LTh.pu from fun e => hnm (by rw [HN.out, HM.out]; exact ((map_eq_iff _ _ _).1 e).1))
    clear hnm
    go_enter Try.func23, Try.ntmps23
    go_wp2_with fail
    go_ret
    exact cp_false F.out (Chg.of_gw (Gw.refl _) _)
  subst hnm
  have hnn : ((n : Int) != (n : Int)) = false := by simp
  go_enter Try.func23, Try.ntmps23
  go_wp2_with fail
  clear hnn
  go_loopw [17] (fun i wr => ∃ j : Nat, j ≤ n ∧ i = .int .i64 j ∧ Chg w wr (Tw k k' k2) ∧ NE k k' k2 bT bN wr ∧ ∀ i (hx : i < xs.length) (hy : i < ys.length), i < j → xs[i].pu = ys[i].pu) (fun i _ => n - (intOf i).toNat)
  case atStart => exact ⟨0, Nat.zero_le _, rfl, Chg.of_gw (Gw.refl _) _, EN.out, fun i _ _ h => absurd h (by omega)⟩
  case round =>
    obtain ⟨j, hj, rfl, hc, hm, hall⟩ := hrel
    have HC := Lib.hid hc
    have HNE := Lib.hid hm
    have HALL := Lib.hid hall
    have hk := EN.out.free hc
    have RX3 := Lib.hid (RX.out.keep (by decide) thLen thFr hk)
    have RY3 := Lib.hid (RY.out.keep (by decide) thLen thFr hk)
    have CB3 := Lib.hid (show CB bT bN bC wr from (hk _ ⟨_, _, CBB.out⟩).trans CBB.out)
    clear hc hm hall hk
    by_cases hlt : j < n
    · have hjx : j < xs.length := by have := HN.out; omega
      have hjy : j < ys.length := by have := HM.out; omega
      obtain ⟨b, o, rfl, fb, ax, fx⟩ := RX3.out.at j hjx
      obtain ⟨b', o', rfl, fb', ay, fy⟩ := RY3.out.at j hjy
      obtain ⟨u, hu⟩ : ∃ u, u = xs[j] := ⟨_, rfl⟩
      obtain ⟨v, hv⟩ : ∃ v, v = ys[j] := ⟨_, rfl⟩
      rw [← hu] at ax fx
      rw [← hv] at ay fy
      have c0 := ax.1 0 _ rfl
      have d0 := ay.1 0 _ rfl
      have c1 := ax.1 1 _ rfl
      have d1 := ay.1 1 _ rfl
      have c2 := ax.1 2 _ rfl
      have d2 := ay.1 2 _ rfl
      have c3 := ax.1 3 _ rfl
      have d3 := ay.1 3 _ rfl
      have c4 := ax.1 4 _ rfl
      have d4 := ay.1 4 _ rfl
      have c5 := ax.1 5 _ rfl
      have d5 := ay.1 5 _ rfl
      rw [Nat.add_zero] at c0 d0
      have HU := Lib.hid hu
      have HV := Lib.hid hv
      have FX := Lib.hid fx
      have FY := Lib.hid fy
      have r0 : (0 : Int) ≤ j := by omega
      have r1 : (j : Int) < n := by omega
      have lX : b < wr.heap.size := cell_lt c0
      have lY : b' < wr.heap.size := cell_lt d0
      clear fx fy fb fb' ax ay hu hv
      go_upto_region 7 with (fail)
      have gA : Gw wr ((wr.alloc (.cells #[.bool u.b, .int .i64 u.c.t.k, .int .i64 u.c.t.v, .slice u.c.t.da u.c.t.ds.length u.c.t.dc, .slice u.c.t.a u.c.t.ks.length u.c.t.cap, .slice u.c.ea u.c.e.length u.c.ec] 63)).alloc (.cells #[.bool v.b, .int .i64 v.c.t.k, .int .i64 v.c.t.v, .slice v.c.t.da v.c.t.ds.length v.c.t.dc, .slice v.c.t.a v.c.t.ks.length v.c.t.cap, .slice v.c.ea v.c.e.length v.c.ec] 63)) := ((Gw.refl wr).alloc _).alloc _
      have b1 : thAt ((wr.alloc (.cells #[.bool u.b, .int .i64 u.c.t.k, .int .i64 u.c.t.v, .slice u.c.t.da u.c.t.ds.length u.c.t.dc, .slice u.c.t.a u.c.t.ks.length u.c.t.cap, .slice u.c.ea u.c.e.length u.c.ec] 63)).alloc (.cells #[.bool v.b, .int .i64 v.c.t.k, .int .i64 v.c.t.v, .slice v.c.t.da v.c.t.ds.length v.c.t.dc, .slice v.c.t.a v.c.t.ks.length v.c.t.cap, .slice v.c.ea v.c.e.length v.c.ec] 63)) wr.heap.size 0 u := gAt.grow thGr (gAt.new thGr (cs := #[.bool u.b, .int .i64 u.c.t.k, .int .i64 u.c.t.v, .slice u.c.t.da u.c.t.ds.length u.c.t.dc, .slice u.c.t.a u.c.t.ks.length u.c.t.cap, .slice u.c.ea u.c.e.length u.c.ec]) (e := 63) rfl FX.out.1) ((Gw.refl _).alloc _)
      have b2 : thAt ((wr.alloc (.cells #[.bool u.b, .int .i64 u.c.t.k, .int .i64 u.c.t.v, .slice u.c.t.da u.c.t.ds.length u.c.t.dc, .slice u.c.t.a u.c.t.ks.length u.c.t.cap, .slice u.c.ea u.c.e.length u.c.ec] 63)).alloc (.cells #[.bool v.b, .int .i64 v.c.t.k, .int .i64 v.c.t.v, .slice v.c.t.da v.c.t.ds.length v.c.t.dc, .slice v.c.t.a v.c.t.ks.length v.c.t.cap, .slice v.c.ea v.c.e.length v.c.ec] 63)) (wr.alloc (.cells #[.bool u.b, .int .i64 u.c.t.k, .int .i64 u.c.t.v, .slice u.c.t.da u.c.t.ds.length u.c.t.dc, .slice u.c.t.a u.c.t.ks.length u.c.t.cap, .slice u.c.ea u.c.e.length u.c.ec] 63)).heap.size 0 v := gAt.new thGr (w := wr.alloc (.cells #[.bool u.b, .int .i64 u.c.t.k, .int .i64 u.c.t.v, .slice u.c.t.da u.c.t.ds.length u.c.t.dc, .slice u.c.t.a u.c.t.ks.length u.c.t.cap, .slice u.c.ea u.c.e.length u.c.ec] 63)) (cs := #[.bool v.b, .int .i64 v.c.t.k, .int .i64 v.c.t.v, .slice v.c.t.da v.c.t.ds.length v.c.t.dc, .slice v.c.t.a v.c.t.ks.length v.c.t.cap, .slice v.c.ea v.c.e.length v.c.ec]) (e := 63) rfl (thGr _ _ _ FY.out.1 ((Gw.refl wr).alloc _))
      rw [World.size_alloc] at b2
      have KEY := Lib.hid (impl_th AP u v ((wr.alloc (.cells #[.bool u.b, .int .i64 u.c.t.k, .int .i64 u.c.t.v, .slice u.c.t.da u.c.t.ds.length u.c.t.dc, .slice u.c.t.a u.c.t.ks.length u.c.t.cap, .slice u.c.ea u.c.e.length u.c.ec] 63)).alloc (.cells #[.bool v.b, .int .i64 v.c.t.k, .int .i64 v.c.t.v, .slice v.c.t.da v.c.t.ds.length v.c.t.dc, .slice v.c.t.a v.c.t.ks.length v.c.t.cap, .slice v.c.ea v.c.e.length v.c.ec] 63)) (FX.out.gw thFr gA) (FY.out.gw thFr gA) (HNE.out.gw gA) (CB3.out.gw gA))
      have GA := Lib.hid (HC.out.trans (Chg.of_gw gA (Tw k k' k2)) (fun _ _ h => h))
      clear c0 d0 c1 d1 c2 d2 c3 d3 c4 d4 c5 d5 lX lY
      generalize ((wr.alloc (.cells #[.bool u.b, .int .i64 u.c.t.k, .int .i64 u.c.t.v, .slice u.c.t.da u.c.t.ds.length u.c.t.dc, .slice u.c.t.a u.c.t.ks.length u.c.t.cap, .slice u.c.ea u.c.e.length u.c.ec] 63)).alloc (.cells #[.bool v.b, .int .i64 v.c.t.k, .int .i64 v.c.t.v, .slice v.c.t.da v.c.t.ds.length v.c.t.dc, .slice v.c.t.a v.c.t.ks.length v.c.t.cap, .slice v.c.ea v.c.e.length v.c.ec] 63)) = W at *
      have z0 := b1.1 0 _ rfl
      have y0 := b2.1 0 _ rfl
      have z1 := b1.1 1 _ rfl
      have y1 := b2.1 1 _ rfl
      have z2 := b1.1 2 _ rfl
      have y2 := b2.1 2 _ rfl
      have z3 := b1.1 3 _ rfl
      have y3 := b2.1 3 _ rfl
      have z4 := b1.1 4 _ rfl
      have y4 := b2.1 4 _ rfl
      have z5 := b1.1 5 _ rfl
      have y5 := b2.1 5 _ rfl
      simp only [Nat.zero_add] at z0 y0 z1 y1 z2 y2 z3 y3 z4 y4 z5 y5
      clear gA b1 b2
      go_wp2_with fail
      refine KEY.out.mono ?_
      rintro e w4 ⟨r, rfl, hr, hc4, hm4⟩
      have C4 := Lib.hid (GA.out.trans hc4 (fun _ _ h => h))
      clear z0 y0 z1 y1 z2 y2 z3 y3 z4 y4 z5 y5 KEY hc4
      cases r with
      | false =>
        have F := Lib.hid (show ¬ xs.map LTh.pu = ys.map LTh.pu from fun e => by have := hr.2 (by rw [HU.out, HV.out]; exact ((map_eq_iff _ _ _).1 e).2 j hjx hjy); cases this)
        clear hr hm4
        go_wp2_with fail
        go_ret
        exact cp_false F.out C4.out
      | true =>
        have HE := Lib.hid (show xs[j].pu = ys[j].pu by have := hr.1 rfl; rwa [HU.out, HV.out] at this)
        have HM4 := Lib.hid (hm4 rfl)
        clear hr hm4
        go_wp2_with fail
        go_roundw
        case rel =>
          refine ⟨j + 1, by omega, by go_num, C4.out, HM4.out, fun i hx hy hi => ?_⟩
          by_cases e : i = j
          · subst e; exact HE.out
          · exact HALL.out i hx hy (by omega)
        case measure => simp [intOf]; omega
    · obtain rfl : j = n := by omega
      have F := Lib.hid (show xs.map LTh.pu = ys.map LTh.pu from (map_eq_iff _ _ _).2 ⟨HN.out.symm.trans HM.out, fun i hx hy => HALL.out i hx hy (by have := HN.out; omega)⟩)
      go_wp2_with fail
      go_ret
      exact cp_true F.out HC.out HNE.out

set_option maxRecDepth 100000 in
set_option maxHeartbeats 2000000 in
theorem impl_sameNd (x y : LNd) (w : World) (hx : ndF w x) (hy : ndF w y) : Calls Try.prog 7 #[x.val, y.val] w (SamR (x.pu = y.pu) w) := by
  have gA : Gw w ((w.alloc (x.obj 42)).alloc (y.obj 42)) := ((Gw.refl w).alloc _).alloc _
  have b1 : ndAt ((w.alloc (x.obj 42)).alloc (y.obj 42)) w.heap.size 0 x := gAt.grow ndGr (gAt.new ndGr (cs := #[.int .i64 x.c.t.k, .int .i64 x.c.t.v, .slice x.c.t.da x.c.t.ds.length x.c.t.dc, .slice x.c.t.a x.c.t.ks.length x.c.t.cap, .slice x.c.ea x.c.e.length x.c.ec, .slice x.sa x.s.length x.sc, .slice x.ha x.h.length x.hc]) (e := 42) rfl hx.1) ((Gw.refl _).alloc (y.obj 42))
  have b2 : ndAt ((w.alloc (x.obj 42)).alloc (y.obj 42)) (w.alloc (x.obj 42)).heap.size 0 y := gAt.new ndGr (w := w.alloc (x.obj 42)) (cs := #[.int .i64 y.c.t.k, .int .i64 y.c.t.v, .slice y.c.t.da y.c.t.ds.length y.c.t.dc, .slice y.c.t.a y.c.t.ks.length y.c.t.cap, .slice y.c.ea y.c.e.length y.c.ec, .slice y.sa y.s.length y.sc, .slice y.ha y.h.length y.hc]) (e := 42) rfl (ndGr _ _ _ hy.1 ((Gw.refl w).alloc _))
  rw [World.size_alloc] at b2
  have FX := Lib.hid (hx.gw ndFr gA)
  have FY := Lib.hid (hy.gw ndFr gA)
  have GA := Lib.hid gA
  have f1 : Free ((w.alloc (x.obj 42)).alloc (y.obj 42)) w.heap.size := Free.grow (⟨_, _, heap_alloc_new w _⟩ : Free (w.alloc (x.obj 42)) w.heap.size) ((Gw.refl _).alloc _)
  have f2 : Free ((w.alloc (x.obj 42)).alloc (y.obj 42)) (w.heap.size + 1) := by
    have := heap_alloc_new (w.alloc (x.obj 42)) (y.obj 42)
    rw [World.size_alloc] at this
    exact ⟨_, _, this⟩
  clear hx hy gA
  go_enter Try.func7, Try.ntmps7
  go_upto_region 1 with (fail)
  generalize ((w.alloc (.cells #[.int .i64 x.c.t.k, .int .i64 x.c.t.v, .slice x.c.t.da x.c.t.ds.length x.c.t.dc, .slice x.c.t.a x.c.t.ks.length x.c.t.cap, .slice x.c.ea x.c.e.length x.c.ec, .slice x.sa x.s.length x.sc, .slice x.ha x.h.length x.hc] 42)).alloc (.cells #[.int .i64 y.c.t.k, .int .i64 y.c.t.v, .slice y.c.t.da y.c.t.ds.length y.c.t.dc, .slice y.c.t.a y.c.t.ks.length y.c.t.cap, .slice y.c.ea y.c.e.length y.c.ec, .slice y.sa y.s.length y.sc, .slice y.ha y.h.length y.hc] 42)) = W1 at *
  have AX := Lib.hid b1
  have AY := Lib.hid b2
  have FR1 := Lib.hid f1
  have FR2 := Lib.hid f2
  clear b1 b2 f1 f2
  go_wp2_with fail
  refine (KCore.impl_cmc W1).mono ?_
  rintro e w2 ⟨k, k', rfl, henv, hmp, g2, hM', hMM⟩
  have gB := (Gw.refl w2).alloc (.cells #[.func (.func 50) #[] #[.pointer (some ⟨k.CN, 0, none⟩), .pointer (some ⟨k.CL, 0, none⟩), .pointer (some ⟨k.CK, 0, none⟩)]] 53)
  have hT := heap_alloc_new w2 (.cells #[.func (.func 50) #[] #[.pointer (some ⟨k.CN, 0, none⟩), .pointer (some ⟨k.CL, 0, none⟩), .pointer (some ⟨k.CK, 0, none⟩)]] 53)
  have EN0 := Lib.hid (henv.gw gB)
  have MP0 := Lib.hid (KMp.gw coFr hmp gB)
  have HT := Lib.hid hT
  have G2 := Lib.hid (show Gw W1 (w2.alloc (.cells #[.func (.func 50) #[] #[.pointer (some ⟨k.CN, 0, none⟩), .pointer (some ⟨k.CL, 0, none⟩), .pointer (some ⟨k.CK, 0, none⟩)]] 53)) from g2.trans gB)
  have LM := Lib.hid (show k.M ≠ k'.M ∧ W1.heap.size ≤ k'.M ∧ k'.M < k.M ∧ k.M < (w2.alloc (.cells #[.func (.func 50) #[] #[.pointer (some ⟨k.CN, 0, none⟩), .pointer (some ⟨k.CL, 0, none⟩), .pointer (some ⟨k.CK, 0, none⟩)]] 53)).heap.size from ⟨by omega, hM', hMM, by
    obtain ⟨es, cl, hm, _⟩ := hmp
    exact Nat.lt_of_lt_of_le (Array.getElem?_eq_some_iff.1 hm).1 gB.size⟩)
  obtain ⟨bT, hbT⟩ : ∃ b, b = w2.heap.size := ⟨_, rfl⟩
  have KEY := Lib.hid (KNmS.impl_lc ⟨0, 0, 0, 0, 0, 0, 0⟩ (w2.alloc (.cells #[.func (.func 50) #[] #[.pointer (some ⟨k.CN, 0, none⟩), .pointer (some ⟨k.CL, 0, none⟩), .pointer (some ⟨k.CK, 0, none⟩)]] 53)))
  clear henv hmp g2 gB hT hM' hMM
  go_upto_region 2 with (fail)
  rw [← hbT] at HT
  rw [← hbT]
  clear hbT
  generalize w2.alloc (.cells #[.func (.func 50) #[] #[.pointer (some ⟨k.CN, 0, none⟩), .pointer (some ⟨k.CL, 0, none⟩), .pointer (some ⟨k.CK, 0, none⟩)]] 53) = W2 at *
  go_wp2_with fail
  refine KEY.out.mono ?_
  rintro e w3 ⟨M, CM, CS, rfl, hcap, hmp, g3, hM⟩
  obtain ⟨k2, hk2⟩ : ∃ k2 : Kb, k2 = { (⟨0, 0, 0, 0, 0, 0, 0⟩ : Kb) with M := M, CM := CM, CS := CS } := ⟨_, rfl⟩
  have e1 : M = k2.M := by rw [hk2]
  have e2 : CM = k2.CM := by rw [hk2]
  have e3 : CS = k2.CS := by rw [hk2]
  rw [← hk2] at hcap
  subst e1 e2 e3
  clear hk2 KEY
  have gB := (Gw.refl w3).alloc (.cells #[.func (.func 41) #[] #[.pointer (some ⟨k2.CM, 0, none⟩), .pointer (some ⟨k2.CS, 0, none⟩)]] 55)
  have hN := heap_alloc_new w3 (.cells #[.func (.func 41) #[] #[.pointer (some ⟨k2.CM, 0, none⟩), .pointer (some ⟨k2.CS, 0, none⟩)]] 55)
  have HNE := Lib.hid (show NE k k' k2 bT w3.heap.size (w3.alloc (.cells #[.func (.func 41) #[] #[.pointer (some ⟨k2.CM, 0, none⟩), .pointer (some ⟨k2.CS, 0, none⟩)]] 55)) from ⟨EN0.out.gw (g3.trans gB), KMp.gw coFr MP0.out (g3.trans gB), hcap.keep (KNmS.free_gw gB), KMp.gw nFr (S := fun _ => False) ⟨_, _, hmp, fun e he => by simp at he⟩ gB, ((g3.trans gB).block _ (Array.getElem?_eq_some_iff.1 HT.out).1).trans HT.out, hN⟩)
  have AP := Lib.hid (show Apart k k' k2 from ⟨LM.out.1, by have := LM.out; have h5 : W2.heap.size ≤ k2.M := hM; omega, by have := LM.out; have h5 : W2.heap.size ≤ k2.M := hM; omega⟩)
  have LK2 := Lib.hid (show W1.heap.size ≤ k2.M by have := G2.out.size; have h5 : W2.heap.size ≤ k2.M := hM; omega)
  have G3 := Lib.hid (show Gw W1 (w3.alloc (.cells #[.func (.func 41) #[] #[.pointer (some ⟨k2.CM, 0, none⟩), .pointer (some ⟨k2.CS, 0, none⟩)]] 55)) from G2.out.trans (g3.trans gB))
  obtain ⟨bN, hbN⟩ : ∃ b, b = w3.heap.size := ⟨_, rfl⟩
  clear hcap hmp g3 gB hN hM EN0 MP0 HT
  go_upto_region 3 with (fail)
  rw [← hbN] at HNE
  rw [← hbN]
  clear hbN
  generalize w3.alloc (.cells #[.func (.func 41) #[] #[.pointer (some ⟨k2.CM, 0, none⟩), .pointer (some ⟨k2.CS, 0, none⟩)]] 55) = W3 at *
  have gB := (Gw.refl W3).alloc (.cells #[.func (.func 19) #[] #[.pointer (some ⟨bT, 0, none⟩), .pointer (some ⟨bN, 0, none⟩)]] 58)
  have hB := heap_alloc_new W3 (.cells #[.func (.func 19) #[] #[.pointer (some ⟨bT, 0, none⟩), .pointer (some ⟨bN, 0, none⟩)]] 58)
  have HNE4 := Lib.hid (HNE.out.gw gB)
  have HCB := Lib.hid (show CB bT bN W3.heap.size (W3.alloc (.cells #[.func (.func 19) #[] #[.pointer (some ⟨bT, 0, none⟩), .pointer (some ⟨bN, 0, none⟩)]] 58)) from hB)
  have G4 := Lib.hid (G3.out.trans gB)
  obtain ⟨bC, hbC⟩ : ∃ b, b = W3.heap.size := ⟨_, rfl⟩
  clear gB hB
  go_upto_region 6 with (fail)
  rw [← hbC] at HCB
  rw [← hbC]
  clear hbC
  generalize W3.alloc (.cells #[.func (.func 19) #[] #[.pointer (some ⟨bT, 0, none⟩), .pointer (some ⟨bN, 0, none⟩)]] 58) = W4 at *
  have hk4 := KCore.free_gw G4.out
  have AX4 := Lib.hid (AX.out.grow ndGr G4.out)
  have AY4 := Lib.hid (AY.out.grow ndGr G4.out)
  have FX4 := Lib.hid (FX.out.gw ndFr G4.out)
  have FY4 := Lib.hid (FY.out.gw ndFr G4.out)
  have FR14 := Lib.hid (FR1.out.grow G4.out)
  have FR24 := Lib.hid (FR2.out.grow G4.out)
  have FIN := Lib.hid (show ∀ (W5 : World), Chg W4 W5 (Tw k k' k2) → Gw w W5 from fun W5 hc => GA.out.trans (Below.trans G4.out (hc.gw G4.out.size (fun b hb e => by have h1 := LM.out; have h2 := LK2.out; have h7 : b < W1.heap.size := hb; rcases e with e | e | e <;> omega))))
  have p0 := AX4.out.1 0 _ rfl
  have q0 := AY4.out.1 0 _ rfl
  have p1 := AX4.out.1 1 _ rfl
  have q1 := AY4.out.1 1 _ rfl
  have p2 := AX4.out.1 2 _ rfl
  have q2 := AY4.out.1 2 _ rfl
  have p3 := AX4.out.1 3 _ rfl
  have q3 := AY4.out.1 3 _ rfl
  have p4 := AX4.out.1 4 _ rfl
  have q4 := AY4.out.1 4 _ rfl
  simp only [Nat.zero_add] at p0 q0 p1 q1 p2 q2 p3 q3 p4 q4
  have m0 : W4.cell? ⟨bC, 0, none⟩ = some (.func (.func 19) #[] #[.pointer (some ⟨bT, 0, none⟩), .pointer (some ⟨bN, 0, none⟩)]) := cell_of_row _ _ 0 _ _ _ HCB.out
  have KEY := Lib.hid (impl_cl AP.out x.c y.c W4 (ndF.c FX4.out) (ndF.c FY4.out) HNE4.out)
  clear hk4
  go_wp2_with fail
  refine KEY.out.mono ?_
  rintro e w5 ⟨r, rfl, hr, hc, hm⟩
  have C5 := Lib.hid hc
  have hk := HNE4.out.free hc
  clear p0 q0 p1 q1 p2 q2 p3 q3 p4 q4 m0 KEY hc
  cases r with
  | false =>
    have F := Lib.hid (show ¬ x.pu = y.pu from fun e => by have := hr.2 ((nd_iff x y).1 e).1; cases this)
    clear hr hm
    go_wp2_with fail
    go_ret
    exact samR_false F.out (FIN.out _ C5.out)
  | true =>
  have H1 := Lib.hid (hr.1 rfl)
  have E5 := Lib.hid (hm rfl)
  have HC5 := Lib.hid (show CB bT bN bC w5 from (hk _ ⟨_, _, HCB.out⟩).trans HCB.out)
  have p5 : w5.cell? ⟨w.heap.size, 5, none⟩ = some (.slice x.sa x.s.length x.sc) := (World.cell?_of_block (a := ⟨w.heap.size, 5, none⟩) (hk _ FR14.out)).trans (by have := AX4.out.1 5 _ rfl; rwa [Nat.zero_add] at this)
  have q5 : w5.cell? ⟨w.heap.size + 1, 5, none⟩ = some (.slice y.sa y.s.length y.sc) := (World.cell?_of_block (a := ⟨w.heap.size + 1, 5, none⟩) (hk _ FR24.out)).trans (by have := AY4.out.1 5 _ rfl; rwa [Nat.zero_add] at this)
  have KEY := Lib.hid (eqf_fr (bC := bC) AP.out x.s y.s w5 x.sa y.sa x.sc y.sc ((ndF.s FX4.out).keep (by decide) frLen frFr hk) ((ndF.s FY4.out).keep (by decide) frLen frFr hk) E5.out HC5.out)
  clear hr hm hk
  go_wp2_with fail
  refine KEY.out.mono ?_
  rintro e w6 ⟨r, rfl, hr, hc, hm⟩
  have C6 := Lib.hid (C5.out.trans hc (fun _ _ h => h))
  have hk := HNE4.out.free C6.out
  clear p5 q5 KEY hc
  cases r with
  | false =>
    have F := Lib.hid (show ¬ x.pu = y.pu from fun e => by have := hr.2 ((nd_iff x y).1 e).2.1; cases this)
    clear hr hm
    go_wp2_with fail
    go_ret
    exact samR_false F.out (FIN.out _ C6.out)
  | true =>
  have H2 := Lib.hid (hr.1 rfl)
  have E6 := Lib.hid (hm rfl)
  have HC6 := Lib.hid (show CB bT bN bC w6 from (hk _ ⟨_, _, HCB.out⟩).trans HCB.out)
  have p6 : w6.cell? ⟨w.heap.size, 6, none⟩ = some (.slice x.ha x.h.length x.hc) := (World.cell?_of_block (a := ⟨w.heap.size, 6, none⟩) (hk _ FR14.out)).trans (by have := AX4.out.1 6 _ rfl; rwa [Nat.zero_add] at this)
  have q6 : w6.cell? ⟨w.heap.size + 1, 6, none⟩ = some (.slice y.ha y.h.length y.hc) := (World.cell?_of_block (a := ⟨w.heap.size + 1, 6, none⟩) (hk _ FR24.out)).trans (by have := AY4.out.1 6 _ rfl; rwa [Nat.zero_add] at this)
  have KEY := Lib.hid (eqf_th (bC := bC) AP.out x.h y.h w6 x.ha y.ha x.hc y.hc ((ndF.h FX4.out).keep (by decide) thLen thFr hk) ((ndF.h FY4.out).keep (by decide) thLen thFr hk) E6.out HC6.out)
  clear hr hm hk
  go_wp2_with fail
  refine KEY.out.mono ?_
  rintro e w7 ⟨r, rfl, hr, hc, hm⟩
  have C7 := Lib.hid (C6.out.trans hc (fun _ _ h => h))
  have HR := Lib.hid (hr.trans (show x.h.map LTh.pu = y.h.map LTh.pu ↔ x.pu = y.pu from ⟨fun e => (nd_iff x y).2 ⟨H1.out, H2.out, e⟩, fun e => ((nd_iff x y).1 e).2.2⟩))
  clear p6 q6 KEY hc hr hm
  go_wp2_with fail
  go_ret
  exact ⟨r, rfl, HR.out, FIN.out _ C7.out⟩

end Go.Proofs.Ytkpbiifikkbaeaa.Con.KNeed
