/-
  Machine states as they lie in memory (closures, frames, cells, states), an argument that is one, and the laws' own szClosure, szFrame, szThunk, szNeed and their rows. No condition but that they can be read.
-/
import Derived.Test.YtkpbiifikkbaeaaDoorCoLw
namespace Go.Proofs.YtkpbiifikkbaeaaDoor.Con
open Go.RowKit Go.ChangeShapes Go.WideShapes Go.ChangeAt Go.Deep
set_option linter.unusedVariables false

structure LCl where
  t : LK
  ea : Option Addr
  ec : Nat
  e : List Int
instance : Inhabited LCl := ⟨⟨default, none, 0, []⟩⟩
def clE (u : LCl) : List Value := [.int .i64 u.t.k, .int .i64 u.t.v, .slice u.t.da u.t.ds.length u.t.dc, .slice u.t.a u.t.ks.length u.t.cap, .slice u.ea u.e.length u.ec]
abbrev LCl.val (u : LCl) : Value := .agg #[.int .i64 u.t.k, .int .i64 u.t.v, .slice u.t.da u.t.ds.length u.t.dc, .slice u.t.a u.t.ks.length u.t.cap, .slice u.ea u.e.length u.ec]
abbrev LCl.obj (u : LCl) (e : TypeId) : Obj := .cells #[.int .i64 u.t.k, .int .i64 u.t.v, .slice u.t.da u.t.ds.length u.t.dc, .slice u.t.a u.t.ks.length u.t.cap, .slice u.ea u.e.length u.ec] e
theorem clLen (u : LCl) : (clE u).length = 5 := rfl
def clOk (w : World) (u : LCl) : Prop := u.t.Ok w ∧ gSl 1 nE nOk w u.ea u.ec u.e
def clB (u : LCl) : List Nat := u.t.bl ++ nbl nB u.ea u.e
theorem clGr : gGr clOk := fun w w' u h g => ⟨coGr _ _ _ h.1 g, gSl.grow nLen nGr h.2 g⟩
theorem clFr : gFr clOk clB := fun w w' u h hb => ⟨coFr _ _ _ h.1 (fun b hm => hb b (List.mem_append_left _ hm)), gSl.frame (by decide) nLen nFr h.2 (fun b hm => hb b (List.mem_append_right _ hm))⟩
abbrev clSl (w : World) (a : Option Addr) (cap : Nat) (us : List LCl) : Prop := gSl 5 clE clOk w a cap us
abbrev LCl.New (B : Nat) (w : World) (u : LCl) : Prop := gNew clOk clB B w u
abbrev clNew (B : Nat) (w : World) (a : Option Addr) (cap : Nat) (us : List LCl) : Prop := gNewSl 5 clE clOk clB B w a cap us
def LCl.sz (u : LCl) : Nat := u.t.sz + u.e.length
abbrev LClP := Co × List Int
def LCl.pu (u : LCl) : LClP := (u.t.co, u.e)
theorem clRow_get {w : World} {us : List LCl} {b o : Nat} (h : gRow 5 clE clOk w us b o) (i : Nat) (hi : i < us.length) :
    w.cell? ⟨b, o + i * 5, none⟩ = some (.int .i64 us[i].t.k) ∧ w.cell? ⟨b, o + i * 5 + 1, none⟩ = some (.int .i64 us[i].t.v) ∧ w.cell? ⟨b, o + i * 5 + 2, none⟩ = some (.slice us[i].t.da us[i].t.ds.length us[i].t.dc) ∧ w.cell? ⟨b, o + i * 5 + 3, none⟩ = some (.slice us[i].t.a us[i].t.ks.length us[i].t.cap) ∧ w.cell? ⟨b, o + i * 5 + 4, none⟩ = some (.slice us[i].ea us[i].e.length us[i].ec) ∧ clOk w us[i] := by
  obtain ⟨h1, h2⟩ := h i hi
  exact ⟨h1 0 _ rfl, h1 1 _ rfl, h1 2 _ rfl, h1 3 _ rfl, h1 4 _ rfl, h2⟩

structure LFr where
  k : Int
  v : Int
  da : Option Addr
  dc : Nat
  d : List Int
  c : LCl
instance : Inhabited LFr := ⟨⟨0, 0, none, 0, [], default⟩⟩
def frE (u : LFr) : List Value := [.int .i64 u.k, .int .i64 u.v, .slice u.da u.d.length u.dc, .int .i64 u.c.t.k, .int .i64 u.c.t.v, .slice u.c.t.da u.c.t.ds.length u.c.t.dc, .slice u.c.t.a u.c.t.ks.length u.c.t.cap, .slice u.c.ea u.c.e.length u.c.ec]
abbrev LFr.val (u : LFr) : Value := .agg #[.int .i64 u.k, .int .i64 u.v, .slice u.da u.d.length u.dc, .int .i64 u.c.t.k, .int .i64 u.c.t.v, .slice u.c.t.da u.c.t.ds.length u.c.t.dc, .slice u.c.t.a u.c.t.ks.length u.c.t.cap, .slice u.c.ea u.c.e.length u.c.ec]
abbrev LFr.obj (u : LFr) (e : TypeId) : Obj := .cells #[.int .i64 u.k, .int .i64 u.v, .slice u.da u.d.length u.dc, .int .i64 u.c.t.k, .int .i64 u.c.t.v, .slice u.c.t.da u.c.t.ds.length u.c.t.dc, .slice u.c.t.a u.c.t.ks.length u.c.t.cap, .slice u.c.ea u.c.e.length u.c.ec] e
theorem frLen (u : LFr) : (frE u).length = 8 := rfl
def frOk (w : World) (u : LFr) : Prop := cin64 u.k ∧ cin64 u.v ∧ gSl 1 nE nOk w u.da u.dc u.d ∧ clOk w u.c
def frB (u : LFr) : List Nat := nbl nB u.da u.d ++ clB u.c
theorem frGr : gGr frOk := fun w w' u h g => ⟨h.1, h.2.1, gSl.grow nLen nGr h.2.2.1 g, clGr _ _ _ h.2.2.2 g⟩
theorem frFr : gFr frOk frB := fun w w' u h hb => ⟨h.1, h.2.1, gSl.frame (by decide) nLen nFr h.2.2.1 (fun b hm => hb b (List.mem_append_left _ hm)), clFr _ _ _ h.2.2.2 (fun b hm => hb b (List.mem_append_right _ hm))⟩
abbrev frSl (w : World) (a : Option Addr) (cap : Nat) (us : List LFr) : Prop := gSl 8 frE frOk w a cap us
abbrev LFr.New (B : Nat) (w : World) (u : LFr) : Prop := gNew frOk frB B w u
abbrev frNew (B : Nat) (w : World) (a : Option Addr) (cap : Nat) (us : List LFr) : Prop := gNewSl 8 frE frOk frB B w a cap us
def LFr.sz (u : LFr) : Nat := u.d.length + u.c.sz
abbrev LFrP := Int × Int × List Int × LClP
def LFr.pu (u : LFr) : LFrP := (u.k, u.v, u.d, u.c.pu)
theorem frRow_get {w : World} {us : List LFr} {b o : Nat} (h : gRow 8 frE frOk w us b o) (i : Nat) (hi : i < us.length) :
    w.cell? ⟨b, o + i * 8, none⟩ = some (.int .i64 us[i].k) ∧ w.cell? ⟨b, o + i * 8 + 1, none⟩ = some (.int .i64 us[i].v) ∧ w.cell? ⟨b, o + i * 8 + 2, none⟩ = some (.slice us[i].da us[i].d.length us[i].dc) ∧ w.cell? ⟨b, o + i * 8 + 3, none⟩ = some (.int .i64 us[i].c.t.k) ∧ w.cell? ⟨b, o + i * 8 + 4, none⟩ = some (.int .i64 us[i].c.t.v) ∧ w.cell? ⟨b, o + i * 8 + 5, none⟩ = some (.slice us[i].c.t.da us[i].c.t.ds.length us[i].c.t.dc) ∧ w.cell? ⟨b, o + i * 8 + 6, none⟩ = some (.slice us[i].c.t.a us[i].c.t.ks.length us[i].c.t.cap) ∧ w.cell? ⟨b, o + i * 8 + 7, none⟩ = some (.slice us[i].c.ea us[i].c.e.length us[i].c.ec) ∧ frOk w us[i] := by
  obtain ⟨h1, h2⟩ := h i hi
  exact ⟨h1 0 _ rfl, h1 1 _ rfl, h1 2 _ rfl, h1 3 _ rfl, h1 4 _ rfl, h1 5 _ rfl, h1 6 _ rfl, h1 7 _ rfl, h2⟩

structure LTh where
  b : Bool
  c : LCl
instance : Inhabited LTh := ⟨⟨false, default⟩⟩
def thE (u : LTh) : List Value := [.bool u.b, .int .i64 u.c.t.k, .int .i64 u.c.t.v, .slice u.c.t.da u.c.t.ds.length u.c.t.dc, .slice u.c.t.a u.c.t.ks.length u.c.t.cap, .slice u.c.ea u.c.e.length u.c.ec]
abbrev LTh.val (u : LTh) : Value := .agg #[.bool u.b, .int .i64 u.c.t.k, .int .i64 u.c.t.v, .slice u.c.t.da u.c.t.ds.length u.c.t.dc, .slice u.c.t.a u.c.t.ks.length u.c.t.cap, .slice u.c.ea u.c.e.length u.c.ec]
abbrev LTh.obj (u : LTh) (e : TypeId) : Obj := .cells #[.bool u.b, .int .i64 u.c.t.k, .int .i64 u.c.t.v, .slice u.c.t.da u.c.t.ds.length u.c.t.dc, .slice u.c.t.a u.c.t.ks.length u.c.t.cap, .slice u.c.ea u.c.e.length u.c.ec] e
theorem thLen (u : LTh) : (thE u).length = 6 := rfl
def thOk (w : World) (u : LTh) : Prop := clOk w u.c
def thB (u : LTh) : List Nat := clB u.c
theorem thGr : gGr thOk := fun w w' u h g => clGr _ _ _ h g
theorem thFr : gFr thOk thB := fun w w' u h hb => clFr _ _ _ h (fun b hm => hb b (hm))
abbrev thSl (w : World) (a : Option Addr) (cap : Nat) (us : List LTh) : Prop := gSl 6 thE thOk w a cap us
abbrev LTh.New (B : Nat) (w : World) (u : LTh) : Prop := gNew thOk thB B w u
abbrev thNew (B : Nat) (w : World) (a : Option Addr) (cap : Nat) (us : List LTh) : Prop := gNewSl 6 thE thOk thB B w a cap us
def LTh.sz (u : LTh) : Nat := u.c.sz
abbrev LThP := Bool × LClP
def LTh.pu (u : LTh) : LThP := (u.b, u.c.pu)
theorem thRow_get {w : World} {us : List LTh} {b o : Nat} (h : gRow 6 thE thOk w us b o) (i : Nat) (hi : i < us.length) :
    w.cell? ⟨b, o + i * 6, none⟩ = some (.bool us[i].b) ∧ w.cell? ⟨b, o + i * 6 + 1, none⟩ = some (.int .i64 us[i].c.t.k) ∧ w.cell? ⟨b, o + i * 6 + 2, none⟩ = some (.int .i64 us[i].c.t.v) ∧ w.cell? ⟨b, o + i * 6 + 3, none⟩ = some (.slice us[i].c.t.da us[i].c.t.ds.length us[i].c.t.dc) ∧ w.cell? ⟨b, o + i * 6 + 4, none⟩ = some (.slice us[i].c.t.a us[i].c.t.ks.length us[i].c.t.cap) ∧ w.cell? ⟨b, o + i * 6 + 5, none⟩ = some (.slice us[i].c.ea us[i].c.e.length us[i].c.ec) ∧ thOk w us[i] := by
  obtain ⟨h1, h2⟩ := h i hi
  exact ⟨h1 0 _ rfl, h1 1 _ rfl, h1 2 _ rfl, h1 3 _ rfl, h1 4 _ rfl, h1 5 _ rfl, h2⟩

structure LNd where
  c : LCl
  sa : Option Addr
  sc : Nat
  s : List LFr
  ha : Option Addr
  hc : Nat
  h : List LTh
instance : Inhabited LNd := ⟨⟨default, none, 0, [], none, 0, []⟩⟩
def ndE (u : LNd) : List Value := [.int .i64 u.c.t.k, .int .i64 u.c.t.v, .slice u.c.t.da u.c.t.ds.length u.c.t.dc, .slice u.c.t.a u.c.t.ks.length u.c.t.cap, .slice u.c.ea u.c.e.length u.c.ec, .slice u.sa u.s.length u.sc, .slice u.ha u.h.length u.hc]
abbrev LNd.val (u : LNd) : Value := .agg #[.int .i64 u.c.t.k, .int .i64 u.c.t.v, .slice u.c.t.da u.c.t.ds.length u.c.t.dc, .slice u.c.t.a u.c.t.ks.length u.c.t.cap, .slice u.c.ea u.c.e.length u.c.ec, .slice u.sa u.s.length u.sc, .slice u.ha u.h.length u.hc]
abbrev LNd.obj (u : LNd) (e : TypeId) : Obj := .cells #[.int .i64 u.c.t.k, .int .i64 u.c.t.v, .slice u.c.t.da u.c.t.ds.length u.c.t.dc, .slice u.c.t.a u.c.t.ks.length u.c.t.cap, .slice u.c.ea u.c.e.length u.c.ec, .slice u.sa u.s.length u.sc, .slice u.ha u.h.length u.hc] e
theorem ndLen (u : LNd) : (ndE u).length = 7 := rfl
def ndOk (w : World) (u : LNd) : Prop := clOk w u.c ∧ gSl 8 frE frOk w u.sa u.sc u.s ∧ gSl 6 thE thOk w u.ha u.hc u.h
def ndB (u : LNd) : List Nat := clB u.c ++ (nbl frB u.sa u.s ++ nbl thB u.ha u.h)
theorem ndGr : gGr ndOk := fun w w' u h g => ⟨clGr _ _ _ h.1 g, gSl.grow frLen frGr h.2.1 g, gSl.grow thLen thGr h.2.2 g⟩
theorem ndFr : gFr ndOk ndB := fun w w' u h hb => ⟨clFr _ _ _ h.1 (fun b hm => hb b (List.mem_append_left _ hm)), gSl.frame (by decide) frLen frFr h.2.1 (fun b hm => hb b (List.mem_append_right _ (List.mem_append_left _ hm))), gSl.frame (by decide) thLen thFr h.2.2 (fun b hm => hb b (List.mem_append_right _ (List.mem_append_right _ hm)))⟩
abbrev ndSl (w : World) (a : Option Addr) (cap : Nat) (us : List LNd) : Prop := gSl 7 ndE ndOk w a cap us
abbrev LNd.New (B : Nat) (w : World) (u : LNd) : Prop := gNew ndOk ndB B w u
abbrev ndNew (B : Nat) (w : World) (a : Option Addr) (cap : Nat) (us : List LNd) : Prop := gNewSl 7 ndE ndOk ndB B w a cap us
def LNd.sz (u : LNd) : Nat := u.c.sz + sm LFr.sz u.s + sm LTh.sz u.h
abbrev LNdP := LClP × List LFrP × List LThP
def LNd.pu (u : LNd) : LNdP := (u.c.pu, u.s.map LFr.pu, u.h.map LTh.pu)
theorem ndRow_get {w : World} {us : List LNd} {b o : Nat} (h : gRow 7 ndE ndOk w us b o) (i : Nat) (hi : i < us.length) :
    w.cell? ⟨b, o + i * 7, none⟩ = some (.int .i64 us[i].c.t.k) ∧ w.cell? ⟨b, o + i * 7 + 1, none⟩ = some (.int .i64 us[i].c.t.v) ∧ w.cell? ⟨b, o + i * 7 + 2, none⟩ = some (.slice us[i].c.t.da us[i].c.t.ds.length us[i].c.t.dc) ∧ w.cell? ⟨b, o + i * 7 + 3, none⟩ = some (.slice us[i].c.t.a us[i].c.t.ks.length us[i].c.t.cap) ∧ w.cell? ⟨b, o + i * 7 + 4, none⟩ = some (.slice us[i].c.ea us[i].c.e.length us[i].c.ec) ∧ w.cell? ⟨b, o + i * 7 + 5, none⟩ = some (.slice us[i].sa us[i].s.length us[i].sc) ∧ w.cell? ⟨b, o + i * 7 + 6, none⟩ = some (.slice us[i].ha us[i].h.length us[i].hc) ∧ ndOk w us[i] := by
  obtain ⟨h1, h2⟩ := h i hi
  exact ⟨h1 0 _ rfl, h1 1 _ rfl, h1 2 _ rfl, h1 3 _ rfl, h1 4 _ rfl, h1 5 _ rfl, h1 6 _ rfl, h2⟩

set_option maxRecDepth 100000 in
theorem trodLCl {H : Type} {enc : TypeId × Value → H} {W : World} : ∀ (fuel : Nat) (vs : List Value) (x : DataW H × List MemPlace), DataW.trod enc Tryd.prog W 0 (fun _ => true) true fuel 29 vs = some x → ∃ u : LCl, vs = clE u ∧ clOk W u := by
  intro fuel vs x hx
  obtain ⟨xs, m, hm, hx, hl, hlen, hff⟩ := DataW.trod_struct Tryd.underlying29 hx
  have hlen2 : xs.length = 2 := hlen
  have hl2 : vs.length = 5 := hl.trans (by kernel_rfl)
  match xs, hlen2 with
  | [y0, y1], _ =>
  have g0 : DataW.trod enc Tryd.prog W 0 (fun _ => true) true m 27 ((vs.drop 0).take (Tryd.prog.cellsOf 27)) = some y0 := hff 0 _ rfl
  rw [show Tryd.prog.cellsOf 27 = 4 by kernel_rfl] at g0
  have g1 : DataW.trod enc Tryd.prog W 0 (fun _ => true) true m 25 ((vs.drop 4).take (Tryd.prog.cellsOf 25)) = some y1 := hff 1 _ rfl
  rw [show Tryd.prog.cellsOf 25 = 1 by kernel_rfl] at g1
  match vs, hl2 with
  | [v0, v1, v2, v3, v4], _ =>
  simp only [List.drop_zero, List.take_succ_cons, List.take_zero, List.drop_succ_cons] at g0 g1
  obtain ⟨x0, e0, r0⟩ : ∃ u : LK, [v0, v1, v2, v3] = coE u ∧ u.Ok W := ((fun fuel vs x hx =>
    lk_of_trod (kk := 2) (kds := 25) (ks := 22) Tryd.underlying27 rfl rfl rfl rfl rfl rfl rfl rfl Tryd.underlying2 Tryd.underlying25 Tryd.underlying22
      (by kernel_rfl) (by kernel_rfl) (by kernel_rfl) (by kernel_rfl) fuel vs x hx)) _ _ _ g0
  obtain ⟨rfl, rfl, rfl, rfl⟩ : v0 = .int .i64 x0.k ∧ v1 = .int .i64 x0.v ∧ v2 = .slice x0.da x0.ds.length x0.dc ∧ v3 = .slice x0.a x0.ks.length x0.cap := by
    simp only [coE, List.cons.injEq, and_true] at e0
    exact e0
  obtain ⟨a1, c1, l1, e1, r1⟩ := sl_of_trod (k := 1) nE (fun n => -9223372036854775808 ≤ n ∧ n ≤ 9223372036854775807) (by decide) (fun _ => rfl) Tryd.underlying25 (by kernel_rfl) m (fun m' _ vs x hx => by
    obtain ⟨s, es, _, ws⟩ := DataW.trod_int Tryd.underlying2 hx
    exact ⟨s, es, by simpa [Lit.wf, IntKind.min, IntKind.max, IntKind.signed, IntKind.bits] using ws⟩) v4 _ g1
  subst e1
  exact ⟨⟨x0, a1, c1, l1⟩, rfl, ⟨r0, r1⟩⟩

set_option maxRecDepth 100000 in
theorem trodLFr {H : Type} {enc : TypeId × Value → H} {W : World} : ∀ (fuel : Nat) (vs : List Value) (x : DataW H × List MemPlace), DataW.trod enc Tryd.prog W 0 (fun _ => true) true fuel 110 vs = some x → ∃ u : LFr, vs = frE u ∧ frOk W u := by
  intro fuel vs x hx
  obtain ⟨xs, m, hm, hx, hl, hlen, hff⟩ := DataW.trod_struct Tryd.underlying110 hx
  have hlen2 : xs.length = 4 := hlen
  have hl2 : vs.length = 8 := hl.trans (by kernel_rfl)
  match xs, hlen2 with
  | [y0, y1, y2, y3], _ =>
  have g0 : DataW.trod enc Tryd.prog W 0 (fun _ => true) true m 2 ((vs.drop 0).take (Tryd.prog.cellsOf 2)) = some y0 := hff 0 _ rfl
  rw [show Tryd.prog.cellsOf 2 = 1 by kernel_rfl] at g0
  have g1 : DataW.trod enc Tryd.prog W 0 (fun _ => true) true m 2 ((vs.drop 1).take (Tryd.prog.cellsOf 2)) = some y1 := hff 1 _ rfl
  rw [show Tryd.prog.cellsOf 2 = 1 by kernel_rfl] at g1
  have g2 : DataW.trod enc Tryd.prog W 0 (fun _ => true) true m 25 ((vs.drop 2).take (Tryd.prog.cellsOf 25)) = some y2 := hff 2 _ rfl
  rw [show Tryd.prog.cellsOf 25 = 1 by kernel_rfl] at g2
  have g3 : DataW.trod enc Tryd.prog W 0 (fun _ => true) true m 29 ((vs.drop 3).take (Tryd.prog.cellsOf 29)) = some y3 := hff 3 _ rfl
  rw [show Tryd.prog.cellsOf 29 = 5 by kernel_rfl] at g3
  match vs, hl2 with
  | [v0, v1, v2, v3, v4, v5, v6, v7], _ =>
  simp only [List.drop_zero, List.take_succ_cons, List.take_zero, List.drop_succ_cons] at g0 g1 g2 g3
  obtain ⟨x0, e0, _, q0⟩ := DataW.trod_int Tryd.underlying2 g0
  obtain rfl : v0 = .int .i64 x0 := by simpa using e0
  have r0 : cin64 x0 := by unfold cin64; simpa [Lit.wf, IntKind.min, IntKind.max, IntKind.signed, IntKind.bits] using q0
  obtain ⟨x1, e1, _, q1⟩ := DataW.trod_int Tryd.underlying2 g1
  obtain rfl : v1 = .int .i64 x1 := by simpa using e1
  have r1 : cin64 x1 := by unfold cin64; simpa [Lit.wf, IntKind.min, IntKind.max, IntKind.signed, IntKind.bits] using q1
  obtain ⟨a2, c2, l2, e2, r2⟩ := sl_of_trod (k := 1) nE (fun n => -9223372036854775808 ≤ n ∧ n ≤ 9223372036854775807) (by decide) (fun _ => rfl) Tryd.underlying25 (by kernel_rfl) m (fun m' _ vs x hx => by
    obtain ⟨s, es, _, ws⟩ := DataW.trod_int Tryd.underlying2 hx
    exact ⟨s, es, by simpa [Lit.wf, IntKind.min, IntKind.max, IntKind.signed, IntKind.bits] using ws⟩) v2 _ g2
  subst e2
  obtain ⟨x3, e3, r3⟩ : ∃ u : LCl, [v3, v4, v5, v6, v7] = clE u ∧ clOk W u := (trodLCl) _ _ _ g3
  obtain ⟨rfl, rfl, rfl, rfl, rfl⟩ : v3 = .int .i64 x3.t.k ∧ v4 = .int .i64 x3.t.v ∧ v5 = .slice x3.t.da x3.t.ds.length x3.t.dc ∧ v6 = .slice x3.t.a x3.t.ks.length x3.t.cap ∧ v7 = .slice x3.ea x3.e.length x3.ec := by
    simp only [clE, List.cons.injEq, and_true] at e3
    exact e3
  exact ⟨⟨x0, x1, a2, c2, l2, x3⟩, rfl, ⟨r0, r1, r2, r3⟩⟩

set_option maxRecDepth 100000 in
theorem trodLTh {H : Type} {enc : TypeId × Value → H} {W : World} : ∀ (fuel : Nat) (vs : List Value) (x : DataW H × List MemPlace), DataW.trod enc Tryd.prog W 0 (fun _ => true) true fuel 113 vs = some x → ∃ u : LTh, vs = thE u ∧ thOk W u := by
  intro fuel vs x hx
  obtain ⟨xs, m, hm, hx, hl, hlen, hff⟩ := DataW.trod_struct Tryd.underlying113 hx
  have hlen2 : xs.length = 2 := hlen
  have hl2 : vs.length = 6 := hl.trans (by kernel_rfl)
  match xs, hlen2 with
  | [y0, y1], _ =>
  have g0 : DataW.trod enc Tryd.prog W 0 (fun _ => true) true m 4 ((vs.drop 0).take (Tryd.prog.cellsOf 4)) = some y0 := hff 0 _ rfl
  rw [show Tryd.prog.cellsOf 4 = 1 by kernel_rfl] at g0
  have g1 : DataW.trod enc Tryd.prog W 0 (fun _ => true) true m 29 ((vs.drop 1).take (Tryd.prog.cellsOf 29)) = some y1 := hff 1 _ rfl
  rw [show Tryd.prog.cellsOf 29 = 5 by kernel_rfl] at g1
  match vs, hl2 with
  | [v0, v1, v2, v3, v4, v5], _ =>
  simp only [List.drop_zero, List.take_succ_cons, List.take_zero, List.drop_succ_cons] at g0 g1
  obtain ⟨x0, e0, _⟩ := DataW.trod_bool Tryd.underlying4 g0
  obtain rfl : v0 = .bool x0 := by simpa using e0
  obtain ⟨x1, e1, r1⟩ : ∃ u : LCl, [v1, v2, v3, v4, v5] = clE u ∧ clOk W u := (trodLCl) _ _ _ g1
  obtain ⟨rfl, rfl, rfl, rfl, rfl⟩ : v1 = .int .i64 x1.t.k ∧ v2 = .int .i64 x1.t.v ∧ v3 = .slice x1.t.da x1.t.ds.length x1.t.dc ∧ v4 = .slice x1.t.a x1.t.ks.length x1.t.cap ∧ v5 = .slice x1.ea x1.e.length x1.ec := by
    simp only [clE, List.cons.injEq, and_true] at e1
    exact e1
  exact ⟨⟨x0, x1⟩, rfl, r1⟩

set_option maxRecDepth 100000 in
theorem trodLNd {H : Type} {enc : TypeId × Value → H} {W : World} : ∀ (fuel : Nat) (vs : List Value) (x : DataW H × List MemPlace), DataW.trod enc Tryd.prog W 0 (fun _ => true) true fuel 33 vs = some x → ∃ u : LNd, vs = ndE u ∧ ndOk W u := by
  intro fuel vs x hx
  obtain ⟨xs, m, hm, hx, hl, hlen, hff⟩ := DataW.trod_struct Tryd.underlying33 hx
  have hlen2 : xs.length = 3 := hlen
  have hl2 : vs.length = 7 := hl.trans (by kernel_rfl)
  match xs, hlen2 with
  | [y0, y1, y2], _ =>
  have g0 : DataW.trod enc Tryd.prog W 0 (fun _ => true) true m 29 ((vs.drop 0).take (Tryd.prog.cellsOf 29)) = some y0 := hff 0 _ rfl
  rw [show Tryd.prog.cellsOf 29 = 5 by kernel_rfl] at g0
  have g1 : DataW.trod enc Tryd.prog W 0 (fun _ => true) true m 30 ((vs.drop 5).take (Tryd.prog.cellsOf 30)) = some y1 := hff 1 _ rfl
  rw [show Tryd.prog.cellsOf 30 = 1 by kernel_rfl] at g1
  have g2 : DataW.trod enc Tryd.prog W 0 (fun _ => true) true m 31 ((vs.drop 6).take (Tryd.prog.cellsOf 31)) = some y2 := hff 2 _ rfl
  rw [show Tryd.prog.cellsOf 31 = 1 by kernel_rfl] at g2
  match vs, hl2 with
  | [v0, v1, v2, v3, v4, v5, v6], _ =>
  simp only [List.drop_zero, List.take_succ_cons, List.take_zero, List.drop_succ_cons] at g0 g1 g2
  obtain ⟨x0, e0, r0⟩ : ∃ u : LCl, [v0, v1, v2, v3, v4] = clE u ∧ clOk W u := (trodLCl) _ _ _ g0
  obtain ⟨rfl, rfl, rfl, rfl, rfl⟩ : v0 = .int .i64 x0.t.k ∧ v1 = .int .i64 x0.t.v ∧ v2 = .slice x0.t.da x0.t.ds.length x0.t.dc ∧ v3 = .slice x0.t.a x0.t.ks.length x0.t.cap ∧ v4 = .slice x0.ea x0.e.length x0.ec := by
    simp only [clE, List.cons.injEq, and_true] at e0
    exact e0
  obtain ⟨a1, c1, l1, e1, r1⟩ := sl_of_trod (k := 8) frE (fun u => frOk W u) (by decide) (fun _ => rfl) Tryd.underlying30 (by kernel_rfl) m (fun m' _ vs x hx => (trodLFr) m' vs x hx) v5 _ g1
  subst e1
  obtain ⟨a2, c2, l2, e2, r2⟩ := sl_of_trod (k := 6) thE (fun u => thOk W u) (by decide) (fun _ => rfl) Tryd.underlying31 (by kernel_rfl) m (fun m' _ vs x hx => (trodLTh) m' vs x hx) v6 _ g2
  subst e2
  exact ⟨⟨x0, a1, c1, l1, a2, c2, l2⟩, rfl, ⟨r0, r1, r2⟩⟩

set_option maxRecDepth 100000 in
theorem open_nd {H : Type} {enc : TypeId × Value → H} {W : World} {r : Reach} {b0 : Nat} {v : Value} {d : DataW H} {p : List MemPlace}
    (hval : Value.okWide Tryd.prog W r b0 33 v) (h : DataW.Trod enc Tryd.prog W 0 (fun _ => true) true 33 v d p) : ∃ u : LNd, v = u.val ∧ ndOk W u := by
  obtain ⟨cs, rfl, hsz⟩ := okWide_struct Tryd.underlying33 hval
  obtain ⟨fuel, hf⟩ := h
  obtain ⟨u, hu, ho⟩ := trodLNd fuel _ _ hf
  refine ⟨u, ?_, ho⟩
  have : cs.toList = ndE u := hu
  obtain ⟨l⟩ := cs
  simp at this
  subst this
  rfl

set_option maxRecDepth 100000 in
theorem laws_szClosure (u : LCl) (w : World) (left : Int) (h : clOk w u) (h0 : 0 ≤ left) (h1 : left ≤ 1048576) : Calls Tryd.prog 26 #[u.val, .int .i64 left] w (KSz w left u.sz) := by
  have H0 := Lib.hid h.1
  have H1 := Lib.hid h.2
  obtain ⟨x0, hx0⟩ : ∃ x, x = u.t.sz := ⟨_, rfl⟩
  obtain ⟨x1, hx1⟩ : ∃ x, x = u.e.length := ⟨_, rfl⟩
  have HZ := Lib.hid (show u.sz = x0 + x1 by rw [hx0, hx1]; rfl)
  have X0 := Lib.hid hx0
  have X1 := Lib.hid hx1
  have hg0 : Gw w (w.alloc (u.obj 29)) := (Gw.refl w).alloc _
  clear h hx0 hx1
  by_cases hf0 : (x0 : Int) ≤ left
  rotate_left
  · have HS0 := Lib.hid (show szR (left) x0 = -1 from if_neg hf0)
    go_enter Tryd.func26, Tryd.ntmps26
    go_wp2_with fail
    refine (laws_szCore u.t _ _ (coGr _ _ _ H0.out hg0) h0 (by omega)).mono ?_
    rintro e w1 ⟨he, hg1⟩
    rw [← X0.out, HS0.out] at he
    subst he
    have gB0 := hg1
    replace hg1 := hg0.trans hg1
    go_wp2_with fail
    go_ret
    exact ⟨ret_int (by have := HZ.out; unfold szR; rw [if_neg (by omega)]), hg1⟩
  have HS0 := Lib.hid (show szR (left) x0 = left - x0 from if_pos hf0)
  have hp1 : 0 ≤ left - x0 := by omega
  by_cases hf1 : (x1 : Int) ≤ left - x0
  rotate_left
  · have HS1 := Lib.hid (show szR (left - x0) x1 = -1 from if_neg hf1)
    go_enter Tryd.func26, Tryd.ntmps26
    go_wp2_with fail
    refine (laws_szCore u.t _ _ (coGr _ _ _ H0.out hg0) h0 (by omega)).mono ?_
    rintro e w1 ⟨he, hg1⟩
    rw [← X0.out, HS0.out] at he
    subst he
    have gB0 := hg1
    obtain ⟨hc0, _⟩ := bcell gB0
    replace hg1 := hg0.trans hg1
    go_wp2_with fail
    refine (laws_szNumS u.e.length (Nat.le_trans (gSl.grow nLen nGr H1.out hg1).1 (gSl.grow nLen nGr H1.out hg1).2.1) _ u.ea u.ec _ hp1 (by omega)).mono ?_
    rintro e w2 ⟨he, hg2⟩
    rw [← X1.out, HS1.out] at he
    subst he
    clear hc0
    have gB1 := gB0.trans hg2
    replace hg2 := hg1.trans hg2
    go_wp2_with fail
    go_ret
    exact ⟨ret_int (by have := HZ.out; unfold szR; rw [if_neg (by omega)]), hg2⟩
  have HS1 := Lib.hid (show szR (left - x0) x1 = left - x0 - x1 from if_pos hf1)
  have hp2 : 0 ≤ left - x0 - x1 := by omega
  go_enter Tryd.func26, Tryd.ntmps26
  go_wp2_with fail
  refine (laws_szCore u.t _ _ (coGr _ _ _ H0.out hg0) h0 (by omega)).mono ?_
  rintro e w1 ⟨he, hg1⟩
  rw [← X0.out, HS0.out] at he
  subst he
  have gB0 := hg1
  obtain ⟨hc0, _⟩ := bcell gB0
  replace hg1 := hg0.trans hg1
  go_wp2_with fail
  refine (laws_szNumS u.e.length (Nat.le_trans (gSl.grow nLen nGr H1.out hg1).1 (gSl.grow nLen nGr H1.out hg1).2.1) _ u.ea u.ec _ hp1 (by omega)).mono ?_
  rintro e w2 ⟨he, hg2⟩
  rw [← X1.out, HS1.out] at he
  subst he
  clear hc0
  have gB1 := gB0.trans hg2
  replace hg2 := hg1.trans hg2
  go_wp2_with fail
  go_ret
  exact ⟨ret_int (by have := HZ.out; unfold szR; rw [if_pos (by omega)]; omega), hg2⟩

set_option maxRecDepth 100000 in
theorem laws_szFrame (u : LFr) (w : World) (left : Int) (h : frOk w u) (h0 : 0 ≤ left) (h1 : left ≤ 1048576) : Calls Tryd.prog 64 #[u.val, .int .i64 left] w (KSz w left u.sz) := by
  have H0 := Lib.hid h.2.2.1
  have H1 := Lib.hid h.2.2.2
  obtain ⟨x0, hx0⟩ : ∃ x, x = u.d.length := ⟨_, rfl⟩
  obtain ⟨x1, hx1⟩ : ∃ x, x = u.c.sz := ⟨_, rfl⟩
  have HZ := Lib.hid (show u.sz = x0 + x1 by rw [hx0, hx1]; rfl)
  have X0 := Lib.hid hx0
  have X1 := Lib.hid hx1
  have hg0 : Gw w (w.alloc (u.obj 110)) := (Gw.refl w).alloc _
  clear h hx0 hx1
  by_cases hf0 : (x0 : Int) ≤ left
  rotate_left
  · have HS0 := Lib.hid (show szR (left) x0 = -1 from if_neg hf0)
    go_enter Tryd.func64, Tryd.ntmps64
    go_wp2_with fail
    refine (laws_szNumS u.d.length (Nat.le_trans (gSl.grow nLen nGr H0.out hg0).1 (gSl.grow nLen nGr H0.out hg0).2.1) _ u.da u.dc _ h0 (by omega)).mono ?_
    rintro e w1 ⟨he, hg1⟩
    rw [← X0.out, HS0.out] at he
    subst he
    have gB0 := hg1
    replace hg1 := hg0.trans hg1
    go_wp2_with fail
    go_ret
    exact ⟨ret_int (by have := HZ.out; unfold szR; rw [if_neg (by omega)]), hg1⟩
  have HS0 := Lib.hid (show szR (left) x0 = left - x0 from if_pos hf0)
  have hp1 : 0 ≤ left - x0 := by omega
  by_cases hf1 : (x1 : Int) ≤ left - x0
  rotate_left
  · have HS1 := Lib.hid (show szR (left - x0) x1 = -1 from if_neg hf1)
    go_enter Tryd.func64, Tryd.ntmps64
    go_wp2_with fail
    refine (laws_szNumS u.d.length (Nat.le_trans (gSl.grow nLen nGr H0.out hg0).1 (gSl.grow nLen nGr H0.out hg0).2.1) _ u.da u.dc _ h0 (by omega)).mono ?_
    rintro e w1 ⟨he, hg1⟩
    rw [← X0.out, HS0.out] at he
    subst he
    have gB0 := hg1
    obtain ⟨hc0, _⟩ := bcell gB0
    replace hg1 := hg0.trans hg1
    go_wp2_with fail
    refine (laws_szClosure u.c _ _ (clGr _ _ _ H1.out hg1) hp1 (by omega)).mono ?_
    rintro e w2 ⟨he, hg2⟩
    rw [← X1.out, HS1.out] at he
    subst he
    clear hc0
    have gB1 := gB0.trans hg2
    replace hg2 := hg1.trans hg2
    go_wp2_with fail
    go_ret
    exact ⟨ret_int (by have := HZ.out; unfold szR; rw [if_neg (by omega)]), hg2⟩
  have HS1 := Lib.hid (show szR (left - x0) x1 = left - x0 - x1 from if_pos hf1)
  have hp2 : 0 ≤ left - x0 - x1 := by omega
  go_enter Tryd.func64, Tryd.ntmps64
  go_wp2_with fail
  refine (laws_szNumS u.d.length (Nat.le_trans (gSl.grow nLen nGr H0.out hg0).1 (gSl.grow nLen nGr H0.out hg0).2.1) _ u.da u.dc _ h0 (by omega)).mono ?_
  rintro e w1 ⟨he, hg1⟩
  rw [← X0.out, HS0.out] at he
  subst he
  have gB0 := hg1
  obtain ⟨hc0, _⟩ := bcell gB0
  replace hg1 := hg0.trans hg1
  go_wp2_with fail
  refine (laws_szClosure u.c _ _ (clGr _ _ _ H1.out hg1) hp1 (by omega)).mono ?_
  rintro e w2 ⟨he, hg2⟩
  rw [← X1.out, HS1.out] at he
  subst he
  clear hc0
  have gB1 := gB0.trans hg2
  replace hg2 := hg1.trans hg2
  go_wp2_with fail
  go_ret
  exact ⟨ret_int (by have := HZ.out; unfold szR; rw [if_pos (by omega)]; omega), hg2⟩

theorem laws_szFrameS (ks : List LFr)
    (w : World) (a : Option Addr) (cap : Nat) (left : Int) (h : frSl w a cap ks) (h0 : 0 ≤ left) (h1 : left ≤ 1048576) :
    Calls Tryd.prog 27 #[.slice a ks.length cap, .int .i64 left] w (KSz w left (sm LFr.sz ks)) := by
  obtain ⟨hlc, hcap, hrow⟩ := h
  have hl : ks.length ≤ 9223372036854775807 := Nat.le_trans hlc hcap
  clear hlc hcap
  by_cases hsm : left < ks.length
  · have := sm_ge LFr.sz ks
    have hsm2 : left - ks.length < 0 := by omega
    go_enter Tryd.func27, Tryd.ntmps27
    go_wp2_with fail
    go_ret
    exact ⟨ret_int (by unfold szR; rw [if_neg (by omega)]), Gw.refl _⟩
  · have hsm2 : 0 ≤ left - ks.length := by omega
    have hsm3 : (ks.length : Int) ≤ left := by omega
    go_enter Tryd.func27, Tryd.ntmps27
    go_wp2_with fail
    clear hsm2 hsm3
    go_loopw [1, 5] (fun l i wr => ∃ j : Nat, j ≤ ks.length ∧ i = .int .i64 j ∧ (sm LFr.sz (ks.take j) : Int) + (ks.length - j) ≤ left ∧ l = .int .i64 (left - (sm LFr.sz (ks.take j) : Int) - (ks.length - j)) ∧ Gw w wr) (fun _ i _ => ks.length - (intOf i).toNat)
    case atStart => exact ⟨0, by omega, rfl, by simp [sm_nil]; omega, by simp [sm_nil], Gw.refl _⟩
    case round =>
      obtain ⟨j, hj, rfl, hle, rfl, hg⟩ := hrel
      by_cases hlt : j < ks.length
      · have hrow' := hrow.resolve_left (fun e => by subst e; simp at hlt)
        obtain ⟨b, o, rfl, hr⟩ := hrow'
        obtain ⟨c0, c1, c2, c3, c4, c5, c6, c7, hk⟩ := frRow_get (hr.grow frLen frGr hg) j hlt
        have ht := sm_take LFr.sz ks j hlt
        have hm2 := sm_rest LFr.sz ks j hlt
        clear hrow hr
        by_cases hf : (LFr.sz ks[j] : Int) ≤ left - (sm LFr.sz (ks.take j) : Int) - (ks.length - j)
        · have hs : szR (left - (sm LFr.sz (ks.take j) : Int) - (ks.length - j)) (LFr.sz ks[j]) = left - (sm LFr.sz (ks.take j) : Int) - (ks.length - j) - LFr.sz ks[j] := if_pos hf
          have HS := Lib.hid hs
          have HT := Lib.hid ht
          clear hs ht
          go_wp2_with fail
          refine (laws_szFrame ks[j] _ _ hk (by omega) (by omega)).mono ?_
          rintro e w1 ⟨he, hg1⟩
          rw [HS.out] at he
          subst he
          have hg2 := hg.trans hg1
          have hp : 0 ≤ left - (sm LFr.sz (ks.take j) : Int) - (ks.length - j) - LFr.sz ks[j] := by omega
          go_wp2_with fail
          go_roundw
          case rel => exact ⟨j + 1, by omega, by go_num, by have := HT.out; omega, by have := HT.out; congr 1; omega, hg2⟩
          case measure => simp [intOf]; omega
        · have hs : szR (left - (sm LFr.sz (ks.take j) : Int) - (ks.length - j)) (LFr.sz ks[j]) = -1 := if_neg hf
          have HS := Lib.hid hs
          have HT := Lib.hid ht
          clear hs ht
          go_wp2_with fail
          refine (laws_szFrame ks[j] _ _ hk (by omega) (by omega)).mono ?_
          rintro e w1 ⟨he, hg1⟩
          rw [HS.out] at he
          subst he
          have hg2 := hg.trans hg1
          go_wp2_with fail
          go_ret
          exact ⟨ret_int (by have := HT.out; unfold szR; rw [if_neg (by omega)]), hg2⟩
      · obtain rfl : j = ks.length := by omega
        go_wp2_with fail
        go_ret
        exact ⟨ret_int (by rw [List.take_length] at hle ⊢; unfold szR; rw [if_pos (by omega)]; omega), hg⟩

set_option maxRecDepth 100000 in
theorem laws_szThunk (u : LTh) (w : World) (left : Int) (h : thOk w u) (h0 : 0 ≤ left) (h1 : left ≤ 1048576) : Calls Tryd.prog 65 #[u.val, .int .i64 left] w (KSz w left u.sz) := by
  have H0 := Lib.hid h
  obtain ⟨x0, hx0⟩ : ∃ x, x = u.c.sz := ⟨_, rfl⟩
  have HZ := Lib.hid (show u.sz = x0 by rw [hx0]; rfl)
  have X0 := Lib.hid hx0
  have hg0 : Gw w (w.alloc (u.obj 113)) := (Gw.refl w).alloc _
  clear h hx0
  by_cases hf0 : (x0 : Int) ≤ left
  rotate_left
  · have HS0 := Lib.hid (show szR (left) x0 = -1 from if_neg hf0)
    go_enter Tryd.func65, Tryd.ntmps65
    go_wp2_with fail
    refine (laws_szClosure u.c _ _ (clGr _ _ _ H0.out hg0) h0 (by omega)).mono ?_
    rintro e w1 ⟨he, hg1⟩
    rw [← X0.out, HS0.out] at he
    subst he
    have gB0 := hg1
    replace hg1 := hg0.trans hg1
    go_wp2_with fail
    go_ret
    exact ⟨ret_int (by have := HZ.out; unfold szR; rw [if_neg (by omega)]), hg1⟩
  have HS0 := Lib.hid (show szR (left) x0 = left - x0 from if_pos hf0)
  have hp1 : 0 ≤ left - x0 := by omega
  go_enter Tryd.func65, Tryd.ntmps65
  go_wp2_with fail
  refine (laws_szClosure u.c _ _ (clGr _ _ _ H0.out hg0) h0 (by omega)).mono ?_
  rintro e w1 ⟨he, hg1⟩
  rw [← X0.out, HS0.out] at he
  subst he
  have gB0 := hg1
  replace hg1 := hg0.trans hg1
  go_wp2_with fail
  go_ret
  exact ⟨ret_int (by have := HZ.out; unfold szR; rw [if_pos (by omega)]; omega), hg1⟩

theorem laws_szThunkS (ks : List LTh)
    (w : World) (a : Option Addr) (cap : Nat) (left : Int) (h : thSl w a cap ks) (h0 : 0 ≤ left) (h1 : left ≤ 1048576) :
    Calls Tryd.prog 28 #[.slice a ks.length cap, .int .i64 left] w (KSz w left (sm LTh.sz ks)) := by
  obtain ⟨hlc, hcap, hrow⟩ := h
  have hl : ks.length ≤ 9223372036854775807 := Nat.le_trans hlc hcap
  clear hlc hcap
  by_cases hsm : left < ks.length
  · have := sm_ge LTh.sz ks
    have hsm2 : left - ks.length < 0 := by omega
    go_enter Tryd.func28, Tryd.ntmps28
    go_wp2_with fail
    go_ret
    exact ⟨ret_int (by unfold szR; rw [if_neg (by omega)]), Gw.refl _⟩
  · have hsm2 : 0 ≤ left - ks.length := by omega
    have hsm3 : (ks.length : Int) ≤ left := by omega
    go_enter Tryd.func28, Tryd.ntmps28
    go_wp2_with fail
    clear hsm2 hsm3
    go_loopw [1, 5] (fun l i wr => ∃ j : Nat, j ≤ ks.length ∧ i = .int .i64 j ∧ (sm LTh.sz (ks.take j) : Int) + (ks.length - j) ≤ left ∧ l = .int .i64 (left - (sm LTh.sz (ks.take j) : Int) - (ks.length - j)) ∧ Gw w wr) (fun _ i _ => ks.length - (intOf i).toNat)
    case atStart => exact ⟨0, by omega, rfl, by simp [sm_nil]; omega, by simp [sm_nil], Gw.refl _⟩
    case round =>
      obtain ⟨j, hj, rfl, hle, rfl, hg⟩ := hrel
      by_cases hlt : j < ks.length
      · have hrow' := hrow.resolve_left (fun e => by subst e; simp at hlt)
        obtain ⟨b, o, rfl, hr⟩ := hrow'
        obtain ⟨c0, c1, c2, c3, c4, c5, hk⟩ := thRow_get (hr.grow thLen thGr hg) j hlt
        have ht := sm_take LTh.sz ks j hlt
        have hm2 := sm_rest LTh.sz ks j hlt
        clear hrow hr
        by_cases hf : (LTh.sz ks[j] : Int) ≤ left - (sm LTh.sz (ks.take j) : Int) - (ks.length - j)
        · have hs : szR (left - (sm LTh.sz (ks.take j) : Int) - (ks.length - j)) (LTh.sz ks[j]) = left - (sm LTh.sz (ks.take j) : Int) - (ks.length - j) - LTh.sz ks[j] := if_pos hf
          have HS := Lib.hid hs
          have HT := Lib.hid ht
          clear hs ht
          go_wp2_with fail
          refine (laws_szThunk ks[j] _ _ hk (by omega) (by omega)).mono ?_
          rintro e w1 ⟨he, hg1⟩
          rw [HS.out] at he
          subst he
          have hg2 := hg.trans hg1
          have hp : 0 ≤ left - (sm LTh.sz (ks.take j) : Int) - (ks.length - j) - LTh.sz ks[j] := by omega
          go_wp2_with fail
          go_roundw
          case rel => exact ⟨j + 1, by omega, by go_num, by have := HT.out; omega, by have := HT.out; congr 1; omega, hg2⟩
          case measure => simp [intOf]; omega
        · have hs : szR (left - (sm LTh.sz (ks.take j) : Int) - (ks.length - j)) (LTh.sz ks[j]) = -1 := if_neg hf
          have HS := Lib.hid hs
          have HT := Lib.hid ht
          clear hs ht
          go_wp2_with fail
          refine (laws_szThunk ks[j] _ _ hk (by omega) (by omega)).mono ?_
          rintro e w1 ⟨he, hg1⟩
          rw [HS.out] at he
          subst he
          have hg2 := hg.trans hg1
          go_wp2_with fail
          go_ret
          exact ⟨ret_int (by have := HT.out; unfold szR; rw [if_neg (by omega)]), hg2⟩
      · obtain rfl : j = ks.length := by omega
        go_wp2_with fail
        go_ret
        exact ⟨ret_int (by rw [List.take_length] at hle ⊢; unfold szR; rw [if_pos (by omega)]; omega), hg⟩

set_option maxRecDepth 100000 in
theorem laws_szNeed (u : LNd) (w : World) (left : Int) (h : ndOk w u) (h0 : 0 ≤ left) (h1 : left ≤ 1048576) : Calls Tryd.prog 7 #[u.val, .int .i64 left] w (KSz w left u.sz) := by
  have H0 := Lib.hid h.1
  have H1 := Lib.hid h.2.1
  have H2 := Lib.hid h.2.2
  obtain ⟨x0, hx0⟩ : ∃ x, x = u.c.sz := ⟨_, rfl⟩
  obtain ⟨x1, hx1⟩ : ∃ x, x = sm LFr.sz u.s := ⟨_, rfl⟩
  obtain ⟨x2, hx2⟩ : ∃ x, x = sm LTh.sz u.h := ⟨_, rfl⟩
  have HZ := Lib.hid (show u.sz = x0 + x1 + x2 by rw [hx0, hx1, hx2]; rfl)
  have X0 := Lib.hid hx0
  have X1 := Lib.hid hx1
  have X2 := Lib.hid hx2
  have hg0 : Gw w (w.alloc (u.obj 33)) := (Gw.refl w).alloc _
  clear h hx0 hx1 hx2
  by_cases hf0 : (x0 : Int) ≤ left
  rotate_left
  · have HS0 := Lib.hid (show szR (left) x0 = -1 from if_neg hf0)
    go_enter Tryd.func7, Tryd.ntmps7
    go_wp2_with fail
    refine (laws_szClosure u.c _ _ (clGr _ _ _ H0.out hg0) h0 (by omega)).mono ?_
    rintro e w1 ⟨he, hg1⟩
    rw [← X0.out, HS0.out] at he
    subst he
    have gB0 := hg1
    replace hg1 := hg0.trans hg1
    go_wp2_with fail
    go_ret
    exact ⟨ret_int (by have := HZ.out; unfold szR; rw [if_neg (by omega)]), hg1⟩
  have HS0 := Lib.hid (show szR (left) x0 = left - x0 from if_pos hf0)
  have hp1 : 0 ≤ left - x0 := by omega
  by_cases hf1 : (x1 : Int) ≤ left - x0
  rotate_left
  · have HS1 := Lib.hid (show szR (left - x0) x1 = -1 from if_neg hf1)
    go_enter Tryd.func7, Tryd.ntmps7
    go_wp2_with fail
    refine (laws_szClosure u.c _ _ (clGr _ _ _ H0.out hg0) h0 (by omega)).mono ?_
    rintro e w1 ⟨he, hg1⟩
    rw [← X0.out, HS0.out] at he
    subst he
    have gB0 := hg1
    obtain ⟨hc0, _⟩ := bcell gB0
    replace hg1 := hg0.trans hg1
    go_wp2_with fail
    refine (laws_szFrameS u.s _ u.sa u.sc _ (gSl.grow frLen frGr H1.out hg1) hp1 (by omega)).mono ?_
    rintro e w2 ⟨he, hg2⟩
    rw [← X1.out, HS1.out] at he
    subst he
    clear hc0
    have gB1 := gB0.trans hg2
    replace hg2 := hg1.trans hg2
    go_wp2_with fail
    go_ret
    exact ⟨ret_int (by have := HZ.out; unfold szR; rw [if_neg (by omega)]), hg2⟩
  have HS1 := Lib.hid (show szR (left - x0) x1 = left - x0 - x1 from if_pos hf1)
  have hp2 : 0 ≤ left - x0 - x1 := by omega
  by_cases hf2 : (x2 : Int) ≤ left - x0 - x1
  rotate_left
  · have HS2 := Lib.hid (show szR (left - x0 - x1) x2 = -1 from if_neg hf2)
    go_enter Tryd.func7, Tryd.ntmps7
    go_wp2_with fail
    refine (laws_szClosure u.c _ _ (clGr _ _ _ H0.out hg0) h0 (by omega)).mono ?_
    rintro e w1 ⟨he, hg1⟩
    rw [← X0.out, HS0.out] at he
    subst he
    have gB0 := hg1
    obtain ⟨hc0, _⟩ := bcell gB0
    replace hg1 := hg0.trans hg1
    go_wp2_with fail
    refine (laws_szFrameS u.s _ u.sa u.sc _ (gSl.grow frLen frGr H1.out hg1) hp1 (by omega)).mono ?_
    rintro e w2 ⟨he, hg2⟩
    rw [← X1.out, HS1.out] at he
    subst he
    clear hc0
    have gB1 := gB0.trans hg2
    obtain ⟨hc1, _⟩ := bcell gB1
    replace hg2 := hg1.trans hg2
    go_wp2_with fail
    refine (laws_szThunkS u.h _ u.ha u.hc _ (gSl.grow thLen thGr H2.out hg2) hp2 (by omega)).mono ?_
    rintro e w3 ⟨he, hg3⟩
    rw [← X2.out, HS2.out] at he
    subst he
    clear hc1
    have gB2 := gB1.trans hg3
    replace hg3 := hg2.trans hg3
    go_wp2_with fail
    go_ret
    exact ⟨ret_int (by have := HZ.out; unfold szR; rw [if_neg (by omega)]), hg3⟩
  have HS2 := Lib.hid (show szR (left - x0 - x1) x2 = left - x0 - x1 - x2 from if_pos hf2)
  have hp3 : 0 ≤ left - x0 - x1 - x2 := by omega
  go_enter Tryd.func7, Tryd.ntmps7
  go_wp2_with fail
  refine (laws_szClosure u.c _ _ (clGr _ _ _ H0.out hg0) h0 (by omega)).mono ?_
  rintro e w1 ⟨he, hg1⟩
  rw [← X0.out, HS0.out] at he
  subst he
  have gB0 := hg1
  obtain ⟨hc0, _⟩ := bcell gB0
  replace hg1 := hg0.trans hg1
  go_wp2_with fail
  refine (laws_szFrameS u.s _ u.sa u.sc _ (gSl.grow frLen frGr H1.out hg1) hp1 (by omega)).mono ?_
  rintro e w2 ⟨he, hg2⟩
  rw [← X1.out, HS1.out] at he
  subst he
  clear hc0
  have gB1 := gB0.trans hg2
  obtain ⟨hc1, _⟩ := bcell gB1
  replace hg2 := hg1.trans hg2
  go_wp2_with fail
  refine (laws_szThunkS u.h _ u.ha u.hc _ (gSl.grow thLen thGr H2.out hg2) hp2 (by omega)).mono ?_
  rintro e w3 ⟨he, hg3⟩
  rw [← X2.out, HS2.out] at he
  subst he
  clear hc1
  have gB2 := gB1.trans hg3
  replace hg3 := hg2.trans hg3
  go_wp2_with fail
  go_ret
  exact ⟨ret_int (by have := HZ.out; unfold szR; rw [if_pos (by omega)]; omega), hg3⟩

end Go.Proofs.YtkpbiifikkbaeaaDoor.Con
