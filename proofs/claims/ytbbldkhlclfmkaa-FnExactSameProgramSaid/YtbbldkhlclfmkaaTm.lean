/-
  Terms as they lie in memory ('LM': a node with the addresses of its type's kids, of its names and of its kids). No program in it but the kinds of its fields, no condition.
  An argument that is a term, opened. No condition.
  Terms in blocks of their own. No program in it, no condition.
  A block that holds a term. No program in it, no condition.
-/
import Derived.Test.YtbbldkhlclfmkaaGr
import Derived.Test.YtbbldkhlclfmkaaDa
import Derived.Test.YtbbldkhlclfmkaaDaSz
import Derived.Test.YtbbldkhlclfmkaaTyBox
namespace Go.Proofs.Ytbbldkhlclfmkaa.Con
open Go.RowKit Go.ChangeShapes Go.WideShapes Go.ChangeAt Go.Deep
set_option linter.unusedVariables false

/-- Texts in a row. -/
def sE (s : ByteArray) : List Value := [.string s]
def sOk (_ : World) (s : ByteArray) : Prop := s.size ≤ maxLen
def sB (_ : ByteArray) : List Nat := []
abbrev strSl (w : World) (a : Option Addr) (cap : Nat) (xs : List ByteArray) : Prop := gSl 1 sE sOk w a cap xs
theorem sFr : gFr sOk sB := fun _ _ _ h _ => h
theorem sGr : gGr sOk := fun _ _ _ h _ => h
theorem sLen (x : ByteArray) : (sE x).length = 1 := rfl

inductive LM where
  | mk (k m : Int) (n : ByteArray) (t : LT) (na : Option Addr) (nc : Nat) (ns : List ByteArray) (a : Option Addr) (cap : Nat) (ks : List LM)
instance : Inhabited LM := ⟨.mk 0 0 ⟨#[]⟩ (.mk 0 ⟨#[]⟩ none 0 []) none 0 [] none 0 []⟩
def LM.k : LM → Int | .mk k _ _ _ _ _ _ _ _ _ => k
def LM.m : LM → Int | .mk _ m _ _ _ _ _ _ _ _ => m
def LM.n : LM → ByteArray | .mk _ _ n _ _ _ _ _ _ _ => n
def LM.t : LM → LT | .mk _ _ _ t _ _ _ _ _ _ => t
def LM.na : LM → Option Addr | .mk _ _ _ _ na _ _ _ _ _ => na
def LM.nc : LM → Nat | .mk _ _ _ _ _ nc _ _ _ _ => nc
def LM.ns : LM → List ByteArray | .mk _ _ _ _ _ _ ns _ _ _ => ns
def LM.a : LM → Option Addr | .mk _ _ _ _ _ _ _ a _ _ => a
def LM.cap : LM → Nat | .mk _ _ _ _ _ _ _ _ c _ => c
def LM.ks : LM → List LM | .mk _ _ _ _ _ _ _ _ _ ks => ks
theorem LM.eta (u : LM) : u = .mk u.k u.m u.n u.t u.na u.nc u.ns u.a u.cap u.ks := by cases u; rfl

/-- The cells of a term. -/
def tmE (u : LM) : List Value := [.int .i64 u.k, .int .i64 u.m, .string u.n, .int .i64 u.t.k, .string u.t.n, .slice u.t.a u.t.ks.length u.t.cap, .slice u.na u.ns.length u.nc, .slice u.a u.ks.length u.cap]
/-- The struct as a value. -/
abbrev LM.val (u : LM) : Value := .agg #[.int .i64 u.k, .int .i64 u.m, .string u.n, .int .i64 u.t.k, .string u.t.n, .slice u.t.a u.t.ks.length u.t.cap, .slice u.na u.ns.length u.nc, .slice u.a u.ks.length u.cap]
theorem tmLen (u : LM) : (tmE u).length = 8 := rfl

theorem LM.ind {P : LM → Prop} (h : ∀ k m n t na nc ns a c ks, (∀ u ∈ ks, P u) → P (.mk k m n t na nc ns a c ks)) : ∀ u, P u := fun u =>
  LM.rec (motive_1 := P) (motive_2 := fun ks => ∀ u ∈ ks, P u) (fun k m n t na nc ns a c ks ih => h k m n t na nc ns a c ks ih) (fun _ h => by cases h)
    (fun t ts ht hts u hu => by
      rcases List.mem_cons.1 hu with rfl | hu
      · exact ht
      · exact hts u hu) u

def in64' (x : Int) : Prop := -9223372036854775808 ≤ x ∧ x ≤ 9223372036854775807

mutual
def LM.Ok (w : World) : LM → Prop
  | .mk k m n t na nc ns a cap ks => (in64' k ∧ in64' m ∧ n.size ≤ maxLen ∧ t.Ok w ∧ strSl w na nc ns) ∧ ks.length ≤ cap ∧ cap ≤ maxLen ∧ (ks = [] ∨ ∃ b o, a = some ⟨b, o, none⟩ ∧ rowM w ks b o)
def rowM (w : World) : List LM → Nat → Nat → Prop
  | [], _, _ => True
  | t :: ts, b, o => (∀ j v, (tmE t)[j]? = some v → w.cell? ⟨b, o + j, none⟩ = some v) ∧ t.Ok w ∧ rowM w ts b (o + 8)
end

theorem rowM_iff {w : World} : ∀ {ks : List LM} {b o : Nat}, rowM w ks b o ↔ gRow 8 tmE LM.Ok w ks b o
  | [], b, o => by unfold rowM; exact ⟨fun _ i hi => by simp at hi, fun _ => trivial⟩
  | t :: ts, b, o => by
    unfold rowM
    rw [rowM_iff (ks := ts)]
    constructor
    · rintro ⟨h1, h2, h3⟩ i hi
      cases i with
      | zero => exact ⟨fun j v hv => by have := h1 j v hv; simpa using this, h2⟩
      | succ i =>
        obtain ⟨c, d⟩ := h3 i (by simpa using hi)
        refine ⟨fun j v hv => ?_, d⟩
        have := c j v hv
        rw [show o + (i + 1) * 8 + j = o + 8 + i * 8 + j from by omega]
        exact this
    · intro h
      obtain ⟨h1, h2⟩ := h 0 (by simp)
      refine ⟨fun j v hv => by have := h1 j v hv; simpa using this, h2, fun i hi => ?_⟩
      obtain ⟨c, d⟩ := h (i + 1) (by simpa using hi)
      refine ⟨fun j v hv => ?_, d⟩
      have := c j v hv
      rw [show o + 8 + i * 8 + j = o + (i + 1) * 8 + j from by omega]
      exact this

/-- The slice of a term's kids. -/
abbrev tmSl (w : World) (a : Option Addr) (cap : Nat) (ks : List LM) : Prop := gSl 8 tmE LM.Ok w a cap ks
theorem LM.ok_iff {w : World} (u : LM) : u.Ok w ↔ (in64' u.k ∧ in64' u.m ∧ u.n.size ≤ maxLen ∧ u.t.Ok w ∧ strSl w u.na u.nc u.ns) ∧ tmSl w u.a u.cap u.ks := by
  obtain ⟨k, m, n, t, na, nc, ns, a, c, ks⟩ := u
  rw [LM.Ok]
  show _ ↔ (_ ∧ (ks.length ≤ c ∧ c ≤ maxLen ∧ (ks = [] ∨ ∃ b o, a = some ⟨b, o, none⟩ ∧ gRow 8 tmE LM.Ok w ks b o)))
  simp only [rowM_iff]
  rfl
theorem LM.Ok.kids {w : World} {u : LM} (h : u.Ok w) : tmSl w u.a u.cap u.ks := ((LM.ok_iff u).1 h).2
theorem LM.Ok.ty {w : World} {u : LM} (h : u.Ok w) : u.t.Ok w := ((LM.ok_iff u).1 h).1.2.2.2.1
theorem LM.Ok.nms {w : World} {u : LM} (h : u.Ok w) : strSl w u.na u.nc u.ns := ((LM.ok_iff u).1 h).1.2.2.2.2
theorem LM.Ok.nm {w : World} {u : LM} (h : u.Ok w) : u.n.size ≤ maxLen := ((LM.ok_iff u).1 h).1.2.2.1

theorem tmGr : gGr LM.Ok := fun w w' u h g => by
  revert h
  refine LM.ind (P := fun u => u.Ok w → u.Ok w') (fun k m n t na nc ns a c ks ih h => ?_) u
  obtain ⟨⟨h1, h2, h3, h4, h5⟩, h6, h7, h8⟩ := (LM.ok_iff _).1 h
  refine (LM.ok_iff _).2 ⟨⟨h1, h2, h3, h4.grow g, h5.grow sLen sGr g⟩, h6, h7, h8.imp id fun ⟨b, o, e, hr⟩ => ⟨b, o, e, fun i hi => ?_⟩⟩
  exact ⟨fun j v hv => (g.cell (p := ⟨_, _, _⟩) (cell_lt ((hr i hi).1 j v hv))).trans ((hr i hi).1 j v hv), ih _ (List.getElem_mem hi) (hr i hi).2⟩
theorem LM.Ok.grow {w w' : World} {u : LM} (h : u.Ok w) (g : Gw w w') : u.Ok w' := tmGr _ _ _ h g

/-- The blocks of a term. -/
def LM.bl : LM → List Nat
  | .mk _ _ _ t na _ ns a _ ks => t.bl ++ (nbl sB na ns ++ ((if ks.isEmpty then [] else match a with | some x => [x.block] | none => []) ++ bls ks))
where bls : List LM → List Nat
  | [] => []
  | t :: ts => t.bl ++ bls ts
theorem mbls_eq (ks : List LM) : LM.bl.bls ks = ks.flatMap LM.bl := by
  induction ks with
  | nil => rfl
  | cons t ts ih => simp only [LM.bl.bls, List.flatMap_cons]; rw [ih]
theorem LM.bl_eq (u : LM) : u.bl = u.t.bl ++ (nbl sB u.na u.ns ++ nbl LM.bl u.a u.ks) := by
  obtain ⟨k, m, n, t, na, nc, ns, a, c, ks⟩ := u
  have := mbls_eq ks
  rw [LM.bl.eq_def]
  simp only [this]
  rfl

theorem tmFr : gFr LM.Ok LM.bl := fun w w' u h hb => by
  revert h hb
  refine LM.ind (P := fun u => u.Ok w → (∀ b ∈ u.bl, w'.heap[b]? = w.heap[b]?) → u.Ok w') (fun k m n t na nc ns a c ks ih h hb => ?_) u
  obtain ⟨⟨h1, h2, h3, h4, h5⟩, h6, h7, h8⟩ := (LM.ok_iff _).1 h
  rw [LM.bl_eq] at hb
  simp only [LM.t, LM.na, LM.nc, LM.ns, LM.a, LM.cap, LM.ks, LM.k, LM.m, LM.n] at h1 h2 h3 h4 h5 h6 h7 h8 hb
  refine (LM.ok_iff _).2 ⟨⟨h1, h2, h3, h4.frame fun b hm => hb b (by simp [hm]), h5.frame (by decide) sLen sFr fun b hm => hb b (by simp [hm])⟩, h6, h7, h8.imp id fun ⟨b, o, e, hr⟩ => ⟨b, o, e, fun i hi => ?_⟩⟩
  have hne : ks.isEmpty = false := by cases ks with | nil => simp [LM.ks] at hi | cons => rfl
  have hbb : w'.heap[b]? = w.heap[b]? := hb b (by
    rw [e]
    refine List.mem_append_right _ (List.mem_append_right _ ?_)
    unfold nbl
    rw [hne]; simp)
  exact ⟨fun j v hv => (World.cell?_of_block (w := w) (w' := w') (a := ⟨b, o + i * 8 + j, none⟩) hbb).trans ((hr i hi).1 j v hv),
    ih _ (List.getElem_mem hi) (hr i hi).2 fun x hx => hb x (List.mem_append_right _ (List.mem_append_right _ (nbl_sub (List.getElem_mem hi) x hx)))⟩
theorem LM.Ok.drew {w : World} {u : LM} (h : u.Ok w) : u.Ok w.drew := tmFr _ _ _ h fun _ _ => rfl

/-- What lies at place i of a row of terms. -/
theorem tmRow_get {w : World} {ks : List LM} {b o : Nat} (h : gRow 8 tmE LM.Ok w ks b o) (i : Nat) (hi : i < ks.length) :
    w.cell? ⟨b, o + i * 8, none⟩ = some (.int .i64 ks[i].k) ∧ w.cell? ⟨b, o + i * 8 + 1, none⟩ = some (.int .i64 ks[i].m) ∧ w.cell? ⟨b, o + i * 8 + 2, none⟩ = some (.string ks[i].n) ∧
    w.cell? ⟨b, o + i * 8 + 3, none⟩ = some (.int .i64 ks[i].t.k) ∧ w.cell? ⟨b, o + i * 8 + 4, none⟩ = some (.string ks[i].t.n) ∧ w.cell? ⟨b, o + i * 8 + 5, none⟩ = some (.slice ks[i].t.a ks[i].t.ks.length ks[i].t.cap) ∧
    w.cell? ⟨b, o + i * 8 + 6, none⟩ = some (.slice ks[i].na ks[i].ns.length ks[i].nc) ∧ w.cell? ⟨b, o + i * 8 + 7, none⟩ = some (.slice ks[i].a ks[i].ks.length ks[i].cap) ∧ ks[i].Ok w := by
  obtain ⟨h1, h2⟩ := h i hi
  exact ⟨h1 0 _ rfl, h1 1 _ rfl, h1 2 _ rfl, h1 3 _ rfl, h1 4 _ rfl, h1 5 _ rfl, h1 6 _ rfl, h1 7 _ rfl, h2⟩

/-- A term without addresses. -/
inductive Tm where
  | mk (k m : Int) (n : ByteArray) (t : Ty) (ns : List ByteArray) (ks : List Tm)
def LM.tm : LM → Tm
  | .mk k m n t _ _ ns _ _ ks => .mk k m n t.ty ns (tms ks)
where tms : List LM → List Tm
  | [] => []
  | t :: ts => t.tm :: tms ts
theorem tms_eq (ks : List LM) : LM.tm.tms ks = ks.map LM.tm := by
  induction ks with
  | nil => rfl
  | cons t ts ih => simp [LM.tm.tms, ih]
theorem LM.tm_eq (u : LM) : u.tm = .mk u.k u.m u.n u.t.ty u.ns (u.ks.map LM.tm) := by
  obtain ⟨k, m, n, t, na, nc, ns, a, c, ks⟩ := u
  rw [LM.tm, tms_eq]; rfl

/-- What the laws count. -/
def ssz (ns : List ByteArray) : Nat := (ns.map fun s => 1 + s.size).sum
def LM.sz : LM → Nat
  | .mk _ _ n t _ _ ns _ _ ks => n.size + t.sz + ssz ns + szl ks
where szl : List LM → Nat
  | [] => 0
  | t :: ts => 1 + t.sz + szl ts
theorem mszl_eq (ks : List LM) : LM.sz.szl ks = sm LM.sz ks := by
  induction ks with
  | nil => rfl
  | cons t ts ih => rw [sm_cons]; simp only [LM.sz.szl]; rw [ih]
theorem LM.sz_eq (u : LM) : u.sz = u.n.size + u.t.sz + ssz u.ns + sm LM.sz u.ks := by
  obtain ⟨k, m, n, t, na, nc, ns, a, c, ks⟩ := u
  rw [LM.sz, mszl_eq]; rfl

end Go.Proofs.Ytbbldkhlclfmkaa.Con

namespace Go.Proofs.Ytbbldkhlclfmkaa.Con
open Go.RowKit Go.ChangeShapes Go.WideShapes Go.ChangeAt Go.Deep
set_option linter.unusedVariables false

theorem lm_of_trod {H : Type} {enc : TypeId × Value → H} {P : Program} {W : World} {t ks kn kk kt kns : TypeId} {f0 f1 f2 f3 f4 f5 : Field}
    (ht : P.underlying t = some (.struct #[f0, f1, f2, f3, f4, f5])) (h0 : f0.type = kk) (h1 : f1.type = kk) (h2 : f2.type = kn) (h3 : f3.type = kt) (h4 : f4.type = kns) (h5 : f5.type = ks)
    (o0 : f0.offset = 0) (o1 : f1.offset = 1) (o2 : f2.offset = 2) (o3 : f3.offset = 3) (o4 : f4.offset = 6) (o5 : f5.offset = 7)
    (uk : P.underlying kk = some (.int .i64)) (un : P.underlying kn = some .string) (uns : P.underlying kns = some (.slice kn)) (us : P.underlying ks = some (.slice t))
    (ck : P.cellsOf kk = 1) (cn : P.cellsOf kn = 1) (ckt : P.cellsOf kt = 3) (cns : P.cellsOf kns = 1) (cs : P.cellsOf ks = 1) (ct : P.cellsOf t = 8)
    (hT : ∀ (fuel : Nat) (vs : List Value) (x : DataW H × List MemPlace), DataW.trod enc P W 0 (fun _ => true) true fuel kt vs = some x → ∃ u : LT, vs = tc u ∧ u.Ok W) :
    ∀ (fuel : Nat) (vs : List Value) (x : DataW H × List MemPlace), DataW.trod enc P W 0 (fun _ => true) true fuel t vs = some x → ∃ u : LM, vs = tmE u ∧ u.Ok W := by
  intro fuel
  induction fuel using Nat.strongRecOn with
  | _ fuel ih =>
  intro vs x h
  obtain ⟨xs, m, hm, hx, hl, hlen, hf⟩ := DataW.trod_struct ht h
  match xs, hlen with
  | [y0, y1, y2, y3, y4, y5], _ =>
  have g0 := hf 0 f0 rfl
  have g1 := hf 1 f1 rfl
  have g2 := hf 2 f2 rfl
  have g3 := hf 3 f3 rfl
  have g4 := hf 4 f4 rfl
  have g5 := hf 5 f5 rfl
  rw [h0, o0, ck] at g0
  rw [h1, o1, ck] at g1
  rw [h2, o2, cn] at g2
  rw [h3, o3, ckt] at g3
  rw [h4, o4, cns] at g4
  rw [h5, o5, cs] at g5
  rw [ct] at hl
  match vs, hl with
  | [v0, v1, v2, v3, v4, v5, v6, v7], _ =>
  simp only [List.drop_zero, List.take_succ_cons, List.take_zero, List.drop_succ_cons, List.getElem?_cons_zero, List.getElem?_cons_succ] at g0 g1 g2 g3 g4 g5
  obtain ⟨k, e0, _, wk⟩ := DataW.trod_int uk g0
  obtain ⟨i, e1, _, wi⟩ := DataW.trod_int uk g1
  obtain ⟨n, e2, _, wn⟩ := DataW.trod_string un g2
  obtain ⟨ty, e3, hty⟩ := hT _ _ _ g3
  obtain rfl : v0 = .int .i64 k := by simpa using e0
  obtain rfl : v1 = .int .i64 i := by simpa using e1
  obtain rfl : v2 = .string n := by simpa using e2
  have hb : in64' k := by unfold in64'; simpa [Lit.wf, IntKind.min, IntKind.max, IntKind.signed, IntKind.bits] using wk
  have hi : in64' i := by unfold in64'; simpa [Lit.wf, IntKind.min, IntKind.max, IntKind.signed, IntKind.bits] using wi
  obtain ⟨na, nc, ns, e6, hns⟩ := sl_of_trod (k := 1) sE (fun s => s.size ≤ maxLen) (by decide) (fun _ => rfl) uns cn m (fun m' _ vs x hx => by
    obtain ⟨s, es, _, ws⟩ := DataW.trod_string un hx
    exact ⟨s, es, ws⟩) v6 _ g4
  obtain ⟨a, cap, us', e7, hus⟩ := sl_of_trod (k := 8) tmE (fun u => u.Ok W) (by decide) (fun _ => rfl) us ct m (fun m' hm' => ih m' (by omega)) v7 _ g5
  refine ⟨.mk k i n ty na nc ns a cap us', ?_, (LM.ok_iff _).2 ⟨⟨hb, hi, wn, hty, hns⟩, hus⟩⟩
  have e3' : v3 = .int .i64 ty.k ∧ v4 = .string ty.n ∧ v5 = .slice ty.a ty.ks.length ty.cap := by simpa [tc] using e3
  obtain ⟨rfl, rfl, rfl⟩ := e3'
  rw [e6, e7]; rfl

set_option maxRecDepth 100000 in
theorem open_term {H : Type} {enc : TypeId × Value → H} {W : World} {r : Reach} {b0 : Nat} {v : Value} {d : DataW H} {p : List MemPlace}
    (hval : Value.okWide Try.prog W r b0 38 v) (h : DataW.Trod enc Try.prog W 0 (fun _ => true) true 38 v d p) : ∃ u : LM, v = u.val ∧ u.Ok W := by
  obtain ⟨cs, rfl, hsz⟩ := okWide_struct Try.underlying38 hval
  obtain ⟨fuel, hf⟩ := h
  have hT : ∀ fuel (vs : List Value) (x : DataW H × List MemPlace), DataW.trod enc Try.prog W 0 (fun _ => true) true fuel 24 vs = some x → ∃ u : LT, vs = tc u ∧ u.Ok W := fun fuel vs x hx =>
    lt_of_trod (kk := 2) (kn := 9) (ks := 22) Try.underlying24 rfl rfl rfl rfl rfl rfl Try.underlying2 Try.underlying9 Try.underlying22 (by kernel_rfl) (by kernel_rfl) (by kernel_rfl) (by kernel_rfl) fuel vs x hx
  obtain ⟨u, hu, ho⟩ := lm_of_trod (kk := 2) (kn := 9) (kt := 24) (kns := 35) (ks := 36) Try.underlying38 rfl rfl rfl rfl rfl rfl rfl rfl rfl rfl rfl rfl Try.underlying2 Try.underlying9 Try.underlying35 Try.underlying36
    (by kernel_rfl) (by kernel_rfl) (by kernel_rfl) (by kernel_rfl) (by kernel_rfl) (by kernel_rfl) hT fuel _ _ hf
  refine ⟨u, ?_, ho⟩
  have : cs.toList = tmE u := hu
  obtain ⟨l⟩ := cs
  simp at this
  subst this
  rfl

end Go.Proofs.Ytbbldkhlclfmkaa.Con

namespace Go.Proofs.Ytbbldkhlclfmkaa.Con
open Go.RowKit
set_option linter.unusedVariables false

/-- A slice of texts in a block of its own. -/
abbrev strNew (B : Nat) (w : World) (a : Option Addr) (cap : Nat) (xs : List ByteArray) : Prop := gNewSl 1 sE sOk sB B w a cap xs
abbrev LM.New (B : Nat) (w : World) (u : LM) : Prop := gNew LM.Ok LM.bl B w u
abbrev tmNew (B : Nat) (w : World) (a : Option Addr) (cap : Nat) (ks : List LM) : Prop := gNewSl 8 tmE LM.Ok LM.bl B w a cap ks

theorem LM.new_mk {B B1 B2 : Nat} {w : World} {k m : Int} {n : ByteArray} {t : LT} {na : Option Addr} {nc : Nat} {ns : List ByteArray} {a : Option Addr} {c : Nat} {ks : List LM}
    (hk : in64' k) (hm : in64' m) (hn : n.size ≤ maxLen) (ht : t.New B w) (hs : strNew B1 w na nc ns) (hks : tmNew B2 w a c ks) (h1 : ∀ b ∈ t.bl, b < B1) (h2 : ∀ b ∈ nbl sB na ns, b < B2) (h12 : B1 ≤ B2) (hB : B ≤ B1) :
    LM.New B w (.mk k m n t na nc ns a c ks) := by
  refine ⟨(LM.ok_iff _).2 ⟨⟨hk, hm, hn, ht.1, hs.1⟩, hks.1⟩, ?_, fun b hb => ?_⟩
  · rw [LM.bl_eq]
    refine List.nodup_append.2 ⟨ht.2.1, List.nodup_append.2 ⟨hs.2.1, hks.2.1, fun x hx y hy e => ?_⟩, fun x hx y hy e => ?_⟩
    · subst e
      have := h2 x hx
      have := (hks.2.2 x hy).1
      omega
    · subst e
      have := h1 x hx
      rcases List.mem_append.1 hy with hy | hy
      · have := (hs.2.2 x hy).1
        omega
      · have := (hks.2.2 x hy).1
        omega
  · rw [LM.bl_eq] at hb
    rcases List.mem_append.1 hb with hb | hb
    · exact ht.2.2 b hb
    · rcases List.mem_append.1 hb with hb | hb
      · have := hs.2.2 b hb
        exact ⟨by omega, this.2⟩
      · have := hks.2.2 b hb
        exact ⟨by omega, this.2⟩

theorem set_at {w : World} {b i : Nat} {cs : Array Value} {e : TypeId} {v : Value} (h : w.heap[b]? = some (.cells cs e (0, 0))) : (w.setCell ⟨b, i, none⟩ v).heap[b]? = some (.cells (cs.setIfInBounds i v) e (0, 0)) := by
  simp [World.setCell, Array.getElem?_modify, h]
theorem heap_alloc_at (w : World) {b : Nat} (o : Obj) (cs : Array Value) (e : TypeId) (ho : o = .cells cs e) (h : b = w.heap.size) : (w.alloc o).heap[b]? = some (.cells cs e (0, 0)) := by
  subst ho h
  exact heap_alloc_new w _

theorem LT.New.same {B : Nat} {w w' : World} {t : LT} (h : t.New B w) (hb : ∀ b ∈ t.bl, w'.heap[b]? = w.heap[b]?) : t.New B w' :=
  ⟨h.1.frame hb, h.2.1, fun b hm => ⟨(h.2.2 b hm).1, (h.2.2 b hm).2.same (hb b hm)⟩⟩

end Go.Proofs.Ytbbldkhlclfmkaa.Con

namespace Go.Proofs.Ytbbldkhlclfmkaa.Con
open Go.RowKit
set_option linter.unusedVariables false

/-- A block holds a term. -/
def BoxM (W : World) (b : Nat) (u : LM) : Prop := ∃ e, W.heap[b]? = some (.cells #[.int .i64 u.k, .int .i64 u.m, .string u.n, .int .i64 u.t.k, .string u.t.n, .slice u.t.a u.t.ks.length u.t.cap, .slice u.na u.ns.length u.nc, .slice u.a u.ks.length u.cap] e (0, 0))
theorem BoxM.new (W : World) (u : LM) (e : TypeId) : BoxM (W.alloc (.cells #[.int .i64 u.k, .int .i64 u.m, .string u.n, .int .i64 u.t.k, .string u.t.n, .slice u.t.a u.t.ks.length u.t.cap, .slice u.na u.ns.length u.nc, .slice u.a u.ks.length u.cap] e)) W.heap.size u := ⟨e, heap_alloc_new W _⟩
theorem BoxM.lt {W : World} {b : Nat} {u : LM} (h : BoxM W b u) : b < W.heap.size := by
  obtain ⟨e, h⟩ := h
  exact (Array.getElem?_eq_some_iff.1 h).1
theorem BoxM.same {W W' : World} {b : Nat} {u : LM} (h : BoxM W b u) (hs : W'.heap[b]? = W.heap[b]?) : BoxM W' b u := by
  obtain ⟨e, h⟩ := h
  exact ⟨e, hs.trans h⟩
theorem BoxM.grow {W W' : World} {b : Nat} {u : LM} (h : BoxM W b u) (g : Gw W W') : BoxM W' b u := h.same (g.block b h.lt)
theorem BoxM.c {W : World} {b : Nat} {u : LM} (h : BoxM W b u) : W.cell? ⟨b, 0, none⟩ = some (.int .i64 u.k) ∧ W.cell? ⟨b, 1, none⟩ = some (.int .i64 u.m) ∧ W.cell? ⟨b, 2, none⟩ = some (.string u.n) ∧
    W.cell? ⟨b, 3, none⟩ = some (.int .i64 u.t.k) ∧ W.cell? ⟨b, 4, none⟩ = some (.string u.t.n) ∧ W.cell? ⟨b, 5, none⟩ = some (.slice u.t.a u.t.ks.length u.t.cap) ∧
    W.cell? ⟨b, 6, none⟩ = some (.slice u.na u.ns.length u.nc) ∧ W.cell? ⟨b, 7, none⟩ = some (.slice u.a u.ks.length u.cap) := by
  obtain ⟨e, h⟩ := h
  exact ⟨cell_of_row _ _ 0 _ _ _ h, cell_of_row _ _ 1 _ _ _ h, cell_of_row _ _ 2 _ _ _ h, cell_of_row _ _ 3 _ _ _ h, cell_of_row _ _ 4 _ _ _ h, cell_of_row _ _ 5 _ _ _ h, cell_of_row _ _ 6 _ _ _ h, cell_of_row _ _ 7 _ _ _ h⟩

end Go.Proofs.Ytbbldkhlclfmkaa.Con
