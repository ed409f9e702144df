/-
  Definitions as they lie in memory ('LF'), an argument that is a program, and the laws' own szDef, szDefS, szProgram. No condition but that the program can be read.
-/
import Derived.Test.YtbbldkhlclfmkaaTmSz
import Derived.Test.YtbbldkhlclfmkaaDa
import Derived.Test.YtbbldkhlclfmkaaDaSz
import Derived.Test.YtbbldkhlclfmkaaDaTo
namespace Go.Proofs.Ytbbldkhlclfmkaa.Con
open Go.RowKit Go.ChangeShapes Go.WideShapes Go.ChangeAt Go.Deep
set_option linter.unusedVariables false

structure LF where
  n : ByteArray
  t : LT
  u : LM
instance : Inhabited LF := ⟨⟨⟨#[]⟩, default, default⟩⟩
def dfE (f : LF) : List Value := [.string f.n, .int .i64 f.t.k, .string f.t.n, .slice f.t.a f.t.ks.length f.t.cap, .int .i64 f.u.k, .int .i64 f.u.m, .string f.u.n, .int .i64 f.u.t.k, .string f.u.t.n, .slice f.u.t.a f.u.t.ks.length f.u.t.cap, .slice f.u.na f.u.ns.length f.u.nc, .slice f.u.a f.u.ks.length f.u.cap]
abbrev LF.val (f : LF) : Value := .agg #[.string f.n, .int .i64 f.t.k, .string f.t.n, .slice f.t.a f.t.ks.length f.t.cap, .int .i64 f.u.k, .int .i64 f.u.m, .string f.u.n, .int .i64 f.u.t.k, .string f.u.t.n, .slice f.u.t.a f.u.t.ks.length f.u.t.cap, .slice f.u.na f.u.ns.length f.u.nc, .slice f.u.a f.u.ks.length f.u.cap]
def dfOk (w : World) (f : LF) : Prop := f.n.size ≤ maxLen ∧ f.t.Ok w ∧ f.u.Ok w
def dfB (f : LF) : List Nat := f.t.bl ++ f.u.bl
theorem dfLen (f : LF) : (dfE f).length = 12 := rfl
theorem dfGr : gGr dfOk := fun w w' f h g => ⟨h.1, h.2.1.grow g, h.2.2.grow g⟩
theorem dfFr : gFr dfOk dfB := fun w w' f h hb => ⟨h.1, h.2.1.frame fun b hm => hb b (List.mem_append_left _ hm), tmFr _ _ _ h.2.2 fun b hm => hb b (List.mem_append_right _ hm)⟩
abbrev dfSl (w : World) (a : Option Addr) (cap : Nat) (fs : List LF) : Prop := gSl 12 dfE dfOk w a cap fs
def LF.sz (f : LF) : Nat := f.n.size + f.t.sz + f.u.sz
abbrev DF := ByteArray × Ty × Tm
def LF.df (f : LF) : DF := (f.n, f.t.ty, f.u.tm)

theorem dfRow_get {w : World} {fs : List LF} {b o : Nat} (h : gRow 12 dfE dfOk w fs b o) (i : Nat) (hi : i < fs.length) :
    w.cell? ⟨b, o + i * 12, none⟩ = some (.string fs[i].n) ∧ w.cell? ⟨b, o + i * 12 + 1, none⟩ = some (.int .i64 fs[i].t.k) ∧ w.cell? ⟨b, o + i * 12 + 2, none⟩ = some (.string fs[i].t.n) ∧ w.cell? ⟨b, o + i * 12 + 3, none⟩ = some (.slice fs[i].t.a fs[i].t.ks.length fs[i].t.cap) ∧ w.cell? ⟨b, o + i * 12 + 4, none⟩ = some (.int .i64 fs[i].u.k) ∧ w.cell? ⟨b, o + i * 12 + 5, none⟩ = some (.int .i64 fs[i].u.m) ∧ w.cell? ⟨b, o + i * 12 + 6, none⟩ = some (.string fs[i].u.n) ∧ w.cell? ⟨b, o + i * 12 + 7, none⟩ = some (.int .i64 fs[i].u.t.k) ∧ w.cell? ⟨b, o + i * 12 + 8, none⟩ = some (.string fs[i].u.t.n) ∧ w.cell? ⟨b, o + i * 12 + 9, none⟩ = some (.slice fs[i].u.t.a fs[i].u.t.ks.length fs[i].u.t.cap) ∧ w.cell? ⟨b, o + i * 12 + 10, none⟩ = some (.slice fs[i].u.na fs[i].u.ns.length fs[i].u.nc) ∧ w.cell? ⟨b, o + i * 12 + 11, none⟩ = some (.slice fs[i].u.a fs[i].u.ks.length fs[i].u.cap) ∧ dfOk w fs[i] := by
  obtain ⟨h1, h2⟩ := h i hi
  exact ⟨h1 0 _ rfl, h1 1 _ rfl, h1 2 _ rfl, h1 3 _ rfl, h1 4 _ rfl, h1 5 _ rfl, h1 6 _ rfl, h1 7 _ rfl, h1 8 _ rfl, h1 9 _ rfl, h1 10 _ rfl, h1 11 _ rfl, h2⟩

/-- A program. -/
structure LP where
  da : Option Addr
  dc : Nat
  ds : List LD
  fa : Option Addr
  fc : Nat
  fs : List LF
abbrev LP.val (p : LP) : Value := .agg #[.slice p.da p.ds.length p.dc, .slice p.fa p.fs.length p.fc]
def pOk (w : World) (p : LP) : Prop := dsOk w p.da p.dc p.ds ∧ dfSl w p.fa p.fc p.fs
theorem pOk.grow {w w' : World} {p : LP} (h : pOk w p) (g : Gw w w') : pOk w' p := ⟨dsOk.grow h.1 g, gSl.grow dfLen dfGr h.2 g⟩
def LP.sz (p : LP) : Nat := sm dsz p.ds + sm LF.sz p.fs
abbrev PR := List (ByteArray × List (ByteArray × List Ty)) × List DF
def LP.pr (p : LP) : PR := (p.ds.map dty, p.fs.map LF.df)

theorem lf_of_trod {H : Type} {enc : TypeId × Value → H} {P : Program} {W : World} {t kn kt ku : TypeId} {f0 f1 f2 : Field}
    (ht : P.underlying t = some (.struct #[f0, f1, f2])) (h0 : f0.type = kn) (h1 : f1.type = kt) (h2 : f2.type = ku) (o0 : f0.offset = 0) (o1 : f1.offset = 1) (o2 : f2.offset = 4)
    (un : P.underlying kn = some .string) (cn : P.cellsOf kn = 1) (ckt : P.cellsOf kt = 3) (cku : P.cellsOf ku = 8) (ct : P.cellsOf t = 12)
    (hT : ∀ (fuel : Nat) (vs : List Value) (x : DataW H × List MemPlace), DataW.trod enc P W 0 (fun _ => true) true fuel kt vs = some x → ∃ u : LT, vs = tc u ∧ u.Ok W)
    (hU : ∀ (fuel : Nat) (vs : List Value) (x : DataW H × List MemPlace), DataW.trod enc P W 0 (fun _ => true) true fuel ku vs = some x → ∃ u : LM, vs = tmE u ∧ u.Ok W)
    (fuel : Nat) (vs : List Value) (x : DataW H × List MemPlace) (h : DataW.trod enc P W 0 (fun _ => true) true fuel t vs = some x) : ∃ f : LF, vs = dfE f ∧ dfOk W f := by
  obtain ⟨xs, m, hm, hx, hl, hlen, hf⟩ := DataW.trod_struct ht h
  match xs, hlen with
  | [y0, y1, y2], _ =>
  have g0 := hf 0 f0 rfl
  have g1 := hf 1 f1 rfl
  have g2 := hf 2 f2 rfl
  rw [h0, o0, cn] at g0
  rw [h1, o1, ckt] at g1
  rw [h2, o2, cku] at g2
  rw [ct] at hl
  match vs, hl with
  | [v0, v1, v2, v3, v4, v5, v6, v7, v8, v9, v10, v11], _ =>
  simp only [List.drop_zero, List.take_succ_cons, List.take_zero, List.drop_succ_cons, List.getElem?_cons_zero, List.getElem?_cons_succ] at g0 g1 g2
  obtain ⟨n, e0, _, wn⟩ := DataW.trod_string un g0
  obtain ⟨ty, e1, hty⟩ := hT _ _ _ g1
  obtain ⟨tm, e2, htm⟩ := hU _ _ _ g2
  obtain rfl : v0 = .string n := by simpa using e0
  refine ⟨⟨n, ty, tm⟩, ?_, wn, hty, htm⟩
  have e3 := congrArg (fun l => Value.string n :: l) (congr (congrArg (· ++ ·) e1) e2)
  exact e3

set_option maxRecDepth 100000 in
theorem open_prog {H : Type} {enc : TypeId × Value → H} {W : World} {r : Reach} {b0 : Nat} {v : Value} {d : DataW H} {p : List MemPlace}
    (hval : Value.okWide Try.prog W r b0 49 v) (h : DataW.Trod enc Try.prog W 0 (fun _ => true) true 49 v d p) : ∃ u : LP, v = u.val ∧ pOk W u := by
  obtain ⟨cs, rfl, hsz⟩ := okWide_struct Try.underlying49 hval
  obtain ⟨fuel, hf⟩ := h
  have hT : ∀ fuel (vs : List Value) (x : DataW H × List MemPlace), DataW.trod enc Try.prog W 0 (fun _ => true) true fuel 24 vs = some x → ∃ u : LT, vs = tc u ∧ u.Ok W := fun fuel vs x hx =>
    lt_of_trod (kk := 2) (kn := 9) (ks := 22) Try.underlying24 rfl rfl rfl rfl rfl rfl Try.underlying2 Try.underlying9 Try.underlying22 (by kernel_rfl) (by kernel_rfl) (by kernel_rfl) (by kernel_rfl) fuel vs x hx
  have hM : ∀ fuel (vs : List Value) (x : DataW H × List MemPlace), DataW.trod enc Try.prog W 0 (fun _ => true) true fuel 38 vs = some x → ∃ u : LM, vs = tmE u ∧ u.Ok W := fun fuel vs x hx =>
    lm_of_trod (kk := 2) (kn := 9) (kt := 24) (kns := 35) (ks := 36) Try.underlying38 rfl rfl rfl rfl rfl rfl rfl rfl rfl rfl rfl rfl Try.underlying2 Try.underlying9 Try.underlying35 Try.underlying36
      (by kernel_rfl) (by kernel_rfl) (by kernel_rfl) (by kernel_rfl) (by kernel_rfl) (by kernel_rfl) hT fuel vs x hx
  have hF : ∀ fuel (vs : List Value) (x : DataW H × List MemPlace), DataW.trod enc Try.prog W 0 (fun _ => true) true fuel 143 vs = some x → ∃ f : LF, vs = dfE f ∧ dfOk W f := fun fuel vs x hx =>
    lf_of_trod (kn := 9) (kt := 24) (ku := 38) Try.underlying143 rfl rfl rfl rfl rfl rfl Try.underlying9 (by kernel_rfl) (by kernel_rfl) (by kernel_rfl) (by kernel_rfl) hT hM fuel vs x hx
  have hC : ∀ fuel (vs : List Value) (x : DataW H × List MemPlace), DataW.trod enc Try.prog W 0 (fun _ => true) true fuel 188 vs = some x → ∃ u : LC, vs = nc u ∧ cOk W u := fun fuel vs x hx => by
    obtain ⟨u, h1, h2, h3, h4, h5⟩ := ln_of_trod (k := 3) (kn := 9) (ts := 22) tc (fun u => u.Ok W) (by decide) (fun _ => rfl) Try.underlying188 rfl rfl rfl rfl Try.underlying9 Try.underlying22 (by kernel_rfl) (by kernel_rfl) (by kernel_rfl) (by kernel_rfl) fuel (fun m _ => hT m) vs x hx
    exact ⟨u, h1, h2, slOk_of h3 h4 h5⟩
  have hD : ∀ fuel (vs : List Value) (x : DataW H × List MemPlace), DataW.trod enc Try.prog W 0 (fun _ => true) true fuel 140 vs = some x → ∃ u : LD, vs = nc u ∧ dOk W u := fun fuel vs x hx => by
    obtain ⟨u, h1, h2, h3, h4, h5⟩ := ln_of_trod (k := 2) (kn := 9) (ts := 138) nc (fun u => cOk W u) (by decide) (fun _ => rfl) Try.underlying140 rfl rfl rfl rfl Try.underlying9 Try.underlying138 (by kernel_rfl) (by kernel_rfl) (by kernel_rfl) (by kernel_rfl) fuel (fun m _ => hC m) vs x hx
    exact ⟨u, h1, h2, nsl_of h3 h4 h5⟩
  obtain ⟨xs, m, hm, hx, hl, hlen, hff⟩ := DataW.trod_struct Try.underlying49 hf
  have hlen2 : xs.length = 2 := hlen
  have hl2 : cs.toList.length = 2 := hl.trans (by kernel_rfl)
  match xs, hlen2 with
  | [y0, y1], _ =>
  have g0 : DataW.trod enc Try.prog W 0 (fun _ => true) true m 46 ((cs.toList.drop 0).take (Try.prog.cellsOf 46)) = some y0 := hff 0 _ rfl
  have g1 : DataW.trod enc Try.prog W 0 (fun _ => true) true m 47 ((cs.toList.drop 1).take (Try.prog.cellsOf 47)) = some y1 := hff 1 _ rfl
  rw [show Try.prog.cellsOf 46 = 1 by kernel_rfl] at g0
  rw [show Try.prog.cellsOf 47 = 1 by kernel_rfl] at g1
  obtain ⟨l⟩ := cs
  match l, hl2 with
  | [v0, v1], _ =>
  simp only [List.drop_zero, List.take_succ_cons, List.take_zero, List.drop_succ_cons] at g0 g1
  obtain ⟨a0, c0, ds, e0, k1, k2, k3⟩ := sl_of_trod (k := 2) nc (fun u => dOk W u) (by decide) (fun _ => rfl) Try.underlying46 (by kernel_rfl) m (fun m _ => hD m) v0 _ g0
  obtain ⟨a1, c1, fs, e1, q1, q2, q3⟩ := sl_of_trod (k := 12) dfE (fun u => dfOk W u) (by decide) (fun _ => rfl) Try.underlying47 (by kernel_rfl) m (fun m _ => hF m) v1 _ g1
  exact ⟨⟨a0, c0, ds, a1, c1, fs⟩, by rw [e0, e1], nsl_of k1 k2 k3, q1, q2, q3⟩

set_option maxRecDepth 100000 in
theorem laws_szDef (f : LF) (w : World) (left : Int) (h : dfOk w f) (h0 : 0 ≤ left) (h1 : left ≤ 1048576) : Calls Try.prog 93 #[f.val, .int .i64 left] w (SzP w left f.sz) := by
  have hn : f.n.size ≤ 9223372036854775807 := h.1
  have hT := Lib.hid h.2.1
  have hU := Lib.hid h.2.2
  clear h
  obtain ⟨x1, hx1⟩ : ∃ x, x = f.t.sz := ⟨_, rfl⟩
  obtain ⟨x2, hx2⟩ : ∃ x, x = f.u.sz := ⟨_, rfl⟩
  have HZ2 := Lib.hid (show f.sz = f.n.size + x1 + x2 by rw [hx1, hx2]; rfl)
  have HX1 := Lib.hid hx1
  have HX2 := Lib.hid hx2
  have hg0 : Gw w (w.alloc (.cells #[.string f.n, .int .i64 f.t.k, .string f.t.n, .slice f.t.a f.t.ks.length f.t.cap, .int .i64 f.u.k, .int .i64 f.u.m, .string f.u.n, .int .i64 f.u.t.k, .string f.u.t.n, .slice f.u.t.a f.u.t.ks.length f.u.t.cap, .slice f.u.na f.u.ns.length f.u.nc, .slice f.u.a f.u.ks.length f.u.cap] 143)) := (Gw.refl w).alloc _
  clear hx1 hx2
  by_cases hsm : left < f.n.size
  · have hsm2 : left - f.n.size < 0 := by omega
    clear hT hU
    go_enter Try.func93, Try.ntmps93
    go_wp2_with fail
    go_ret
    exact ⟨ret_int (by have := HZ2.out; unfold szR; rw [if_neg (by omega)]), hg0⟩
  have hsm2 : 0 ≤ left - f.n.size := by omega
  have hsm3 : (f.n.size : Int) ≤ left := by omega
  by_cases hf1 : (x1 : Int) ≤ left - f.n.size
  rotate_left
  · have HS1 := Lib.hid (show szR (left - f.n.size) x1 = -1 from if_neg hf1)
    go_enter Try.func93, Try.ntmps93
    go_wp2_with fail
    refine (laws_szType f.t _ _ (hT.out.grow hg0) hsm2 (by omega)).mono ?_
    rintro e w1 ⟨he, hg1⟩
    rw [← HX1.out, HS1.out] at he
    subst he
    go_wp2_with fail
    go_ret
    exact ⟨ret_int (by have := HZ2.out; unfold szR; rw [if_neg (by omega)]), hg0.trans hg1⟩
  have HS1 := Lib.hid (show szR (left - f.n.size) x1 = left - f.n.size - x1 from if_pos hf1)
  have hp1 : 0 ≤ left - f.n.size - x1 := by omega
  by_cases hf2 : (x2 : Int) ≤ left - f.n.size - x1
  rotate_left
  · have HS2 := Lib.hid (show szR (left - f.n.size - x1) x2 = -1 from if_neg hf2)
    go_enter Try.func93, Try.ntmps93
    go_wp2_with fail
    refine (laws_szType f.t _ _ (hT.out.grow hg0) hsm2 (by omega)).mono ?_
    rintro e w1 ⟨he, hg1⟩
    rw [← HX1.out, HS1.out] at he
    subst he
    obtain ⟨hc1, _⟩ := bcell hg1
    go_wp2_with fail
    refine (laws_szTerm f.u _ _ (hU.out.grow (hg0.trans hg1)) hp1 (by omega)).mono ?_
    rintro e w2 ⟨he, hg2⟩
    rw [← HX2.out, HS2.out] at he
    subst he
    clear hc1
    go_wp2_with fail
    go_ret
    exact ⟨ret_int (by have := HZ2.out; unfold szR; rw [if_neg (by omega)]), (hg0.trans hg1).trans hg2⟩
  have HS2 := Lib.hid (show szR (left - f.n.size - x1) x2 = left - f.n.size - x1 - x2 from if_pos hf2)
  have hp2 : 0 ≤ left - f.n.size - x1 - x2 := by omega
  go_enter Try.func93, Try.ntmps93
  go_wp2_with fail
  refine (laws_szType f.t _ _ (hT.out.grow hg0) hsm2 (by omega)).mono ?_
  rintro e w1 ⟨he, hg1⟩
  rw [← HX1.out, HS1.out] at he
  subst he
  obtain ⟨hc1, _⟩ := bcell hg1
  go_wp2_with fail
  refine (laws_szTerm f.u _ _ (hU.out.grow (hg0.trans hg1)) hp1 (by omega)).mono ?_
  rintro e w2 ⟨he, hg2⟩
  rw [← HX2.out, HS2.out] at he
  subst he
  clear hc1
  go_wp2_with fail
  go_ret
  exact ⟨ret_int (by have := HZ2.out; unfold szR; rw [if_pos (by omega)]; omega), (hg0.trans hg1).trans hg2⟩

theorem laws_szDefS (ks : List LF)
    (w : World) (a : Option Addr) (cap : Nat) (left : Int) (h : dfSl w a cap ks) (h0 : 0 ≤ left) (h1 : left ≤ 1048576) :
    Calls Try.prog 57 #[.slice a ks.length cap, .int .i64 left] w (SzP w left (sm LF.sz ks)) := by
  obtain ⟨hlc, hcap, hrow⟩ := h
  have hl : ks.length ≤ 9223372036854775807 := Nat.le_trans hlc hcap
  clear hlc hcap
  by_cases hsm : left < ks.length
  · have := sm_ge LF.sz ks
    have hsm2 : left - ks.length < 0 := by omega
    go_enter Try.func57, Try.ntmps57
    go_wp2_with fail
    go_ret
    exact ⟨ret_int (by unfold szR; rw [if_neg (by omega)]), Gw.refl _⟩
  · have hsm2 : 0 ≤ left - ks.length := by omega
    have hsm3 : (ks.length : Int) ≤ left := by omega
    go_enter Try.func57, Try.ntmps57
    go_wp2_with fail
    clear hsm2 hsm3
    go_loopw [1, 5] (fun l i wr => ∃ j : Nat, j ≤ ks.length ∧ i = .int .i64 j ∧ (sm LF.sz (ks.take j) : Int) + (ks.length - j) ≤ left ∧ l = .int .i64 (left - (sm LF.sz (ks.take j) : Int) - (ks.length - j)) ∧ Gw w wr) (fun _ i _ => ks.length - (intOf i).toNat)
    case atStart => exact ⟨0, by omega, rfl, by simp [sm_nil]; omega, by simp [sm_nil], Gw.refl _⟩
    case round =>
      obtain ⟨j, hj, rfl, hle, rfl, hg⟩ := hrel
      by_cases hlt : j < ks.length
      · have hrow' := hrow.resolve_left (fun e => by subst e; simp at hlt)
        obtain ⟨b, o, rfl, hr⟩ := hrow'
        obtain ⟨c0, c1, c2, c3, c4, c5, c6, c7, c8, c9, c10, c11, hk⟩ := dfRow_get (hr.grow dfLen dfGr hg) j hlt
        have ht := sm_take LF.sz ks j hlt
        have hm2 := sm_rest LF.sz ks j hlt
        clear hrow hr
        by_cases hf : (LF.sz ks[j] : Int) ≤ left - (sm LF.sz (ks.take j) : Int) - (ks.length - j)
        · have hs : szR (left - (sm LF.sz (ks.take j) : Int) - (ks.length - j)) (LF.sz ks[j]) = left - (sm LF.sz (ks.take j) : Int) - (ks.length - j) - LF.sz ks[j] := if_pos hf
          have HS := Lib.hid hs
          have HT := Lib.hid ht
          clear hs ht
          go_wp2_with fail
          refine (laws_szDef ks[j] _ _ hk (by omega) (by omega)).mono ?_
          rintro e w1 ⟨he, hg1⟩
          rw [HS.out] at he
          subst he
          have hg2 := hg.trans hg1
          have hp : 0 ≤ left - (sm LF.sz (ks.take j) : Int) - (ks.length - j) - LF.sz ks[j] := by omega
          go_wp2_with fail
          go_roundw
          case rel => exact ⟨j + 1, by omega, by go_num, by have := HT.out; omega, by have := HT.out; congr 1; omega, hg2⟩
          case measure => simp [intOf]; omega
        · have hs : szR (left - (sm LF.sz (ks.take j) : Int) - (ks.length - j)) (LF.sz ks[j]) = -1 := if_neg hf
          have HS := Lib.hid hs
          have HT := Lib.hid ht
          clear hs ht
          go_wp2_with fail
          refine (laws_szDef ks[j] _ _ hk (by omega) (by omega)).mono ?_
          rintro e w1 ⟨he, hg1⟩
          rw [HS.out] at he
          subst he
          have hg2 := hg.trans hg1
          go_wp2_with fail
          go_ret
          exact ⟨ret_int (by have := HT.out; unfold szR; rw [if_neg (by omega)]), hg2⟩
      · obtain rfl : j = ks.length := by omega
        go_wp2_with fail
        go_ret
        exact ⟨ret_int (by rw [List.take_length] at hle ⊢; unfold szR; rw [if_pos (by omega)]; omega), hg⟩

theorem laws_szProgram (p : LP) (w : World) (left : Int) (h : pOk w p) (h0 : 0 ≤ left) (h1 : left ≤ 1048576) : Calls Try.prog 23 #[p.val, .int .i64 left] w (SzP w left p.sz) := by
  have hD := Lib.hid h.1
  have hF := Lib.hid h.2
  clear h
  obtain ⟨x1, hx1⟩ : ∃ x, x = sm dsz p.ds := ⟨_, rfl⟩
  obtain ⟨x2, hx2⟩ : ∃ x, x = sm LF.sz p.fs := ⟨_, rfl⟩
  have HZ2 := Lib.hid (show p.sz = x1 + x2 by rw [hx1, hx2]; rfl)
  have HX1 := Lib.hid hx1
  have HX2 := Lib.hid hx2
  have hg0 : Gw w (w.alloc (.cells #[.slice p.da p.ds.length p.dc, .slice p.fa p.fs.length p.fc] 49)) := (Gw.refl w).alloc _
  clear hx1 hx2
  by_cases hf1 : (x1 : Int) ≤ left
  rotate_left
  · have HS1 := Lib.hid (show szR left x1 = -1 from if_neg hf1)
    go_enter Try.func23, Try.ntmps23
    go_wp2_with fail
    refine (laws_szDataS p.ds _ p.da p.dc _ (dsOk.grow hD.out hg0) h0 h1).mono ?_
    rintro e w1 ⟨he, hg1⟩
    rw [← HX1.out, HS1.out] at he
    subst he
    go_wp2_with fail
    go_ret
    exact ⟨ret_int (by have := HZ2.out; unfold szR; rw [if_neg (by omega)]), hg0.trans hg1⟩
  have HS1 := Lib.hid (show szR left x1 = left - x1 from if_pos hf1)
  have hp1 : 0 ≤ left - x1 := by omega
  by_cases hf2 : (x2 : Int) ≤ left - x1
  rotate_left
  · have HS2 := Lib.hid (show szR (left - x1) x2 = -1 from if_neg hf2)
    go_enter Try.func23, Try.ntmps23
    go_wp2_with fail
    refine (laws_szDataS p.ds _ p.da p.dc _ (dsOk.grow hD.out hg0) h0 h1).mono ?_
    rintro e w1 ⟨he, hg1⟩
    rw [← HX1.out, HS1.out] at he
    subst he
    obtain ⟨hc1, _⟩ := bcell hg1
    go_wp2_with fail
    refine (laws_szDefS p.fs _ p.fa p.fc _ (gSl.grow dfLen dfGr hF.out (hg0.trans hg1)) hp1 (by omega)).mono ?_
    rintro e w2 ⟨he, hg2⟩
    rw [← HX2.out, HS2.out] at he
    subst he
    clear hc1
    go_wp2_with fail
    go_ret
    exact ⟨ret_int (by have := HZ2.out; unfold szR; rw [if_neg (by omega)]), (hg0.trans hg1).trans hg2⟩
  have HS2 := Lib.hid (show szR (left - x1) x2 = left - x1 - x2 from if_pos hf2)
  have hp2 : 0 ≤ left - x1 - x2 := by omega
  go_enter Try.func23, Try.ntmps23
  go_wp2_with fail
  refine (laws_szDataS p.ds _ p.da p.dc _ (dsOk.grow hD.out hg0) h0 h1).mono ?_
  rintro e w1 ⟨he, hg1⟩
  rw [← HX1.out, HS1.out] at he
  subst he
  obtain ⟨hc1, _⟩ := bcell hg1
  go_wp2_with fail
  refine (laws_szDefS p.fs _ p.fa p.fc _ (gSl.grow dfLen dfGr hF.out (hg0.trans hg1)) hp1 (by omega)).mono ?_
  rintro e w2 ⟨he, hg2⟩
  rw [← HX2.out, HS2.out] at he
  subst he
  clear hc1
  go_wp2_with fail
  go_ret
  exact ⟨ret_int (by have := HZ2.out; unfold szR; rw [if_pos (by omega)]; omega), (hg0.trans hg1).trans hg2⟩

end Go.Proofs.Ytbbldkhlclfmkaa.Con
