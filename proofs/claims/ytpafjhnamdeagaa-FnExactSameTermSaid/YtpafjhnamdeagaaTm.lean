/-
  Terms as they lie in memory ('LM': a node with the addresses of its type's kids, of its names and of its kids). No program in it but the kinds of its fields, no condition.
-/
import Derived.Test.YtpafjhnamdeagaaGr
import Derived.Test.YtpafjhnamdeagaaDaOpen
import Derived.Test.YtpafjhnamdeagaaDaSz
namespace Go.Proofs.Ytpafjhnamdeagaa.Con
open Go.RowKit Go.ChangeShapes Go.WideShapes Go.ChangeAt Go.Deep
set_option linter.unusedVariables false

/-- Texts in a row. -/
def sE (s : ByteArray) : List Value := [.string s]
def sOk (_ : World) (s : ByteArray) : Prop := s.size ≤ maxLen
def sB (_ : ByteArray) : List Nat := []
abbrev strSl (w : World) (a : Option Addr) (cap : Nat) (xs : List ByteArray) : Prop := gSl 1 sE sOk w a cap xs
theorem sFr : gFr sOk sB := fun _ _ _ h _ => h
theorem sGr : gGr sOk := fun _ _ _ h _ => h
theorem sLen (x : ByteArray) : (sE x).length = 1 := rfl

inductive LM where
  | mk (k m : Int) (n : ByteArray) (t : LT) (na : Option Addr) (nc : Nat) (ns : List ByteArray) (a : Option Addr) (cap : Nat) (ks : List LM)
instance : Inhabited LM := ⟨.mk 0 0 ⟨#[]⟩ (.mk 0 ⟨#[]⟩ none 0 []) none 0 [] none 0 []⟩
def LM.k : LM → Int | .mk k _ _ _ _ _ _ _ _ _ => k
def LM.m : LM → Int | .mk _ m _ _ _ _ _ _ _ _ => m
def LM.n : LM → ByteArray | .mk _ _ n _ _ _ _ _ _ _ => n
def LM.t : LM → LT | .mk _ _ _ t _ _ _ _ _ _ => t
def LM.na : LM → Option Addr | .mk _ _ _ _ na _ _ _ _ _ => na
def LM.nc : LM → Nat | .mk _ _ _ _ _ nc _ _ _ _ => nc
def LM.ns : LM → List ByteArray | .mk _ _ _ _ _ _ ns _ _ _ => ns
def LM.a : LM → Option Addr | .mk _ _ _ _ _ _ _ a _ _ => a
def LM.cap : LM → Nat | .mk _ _ _ _ _ _ _ _ c _ => c
def LM.ks : LM → List LM | .mk _ _ _ _ _ _ _ _ _ ks => ks
theorem LM.eta (u : LM) : u = .mk u.k u.m u.n u.t u.na u.nc u.ns u.a u.cap u.ks := by cases u; rfl

/-- The cells of a term. -/
def tmE (u : LM) : List Value := [.int .i64 u.k, .int .i64 u.m, .string u.n, .int .i64 u.t.k, .string u.t.n, .slice u.t.a u.t.ks.length u.t.cap, .slice u.na u.ns.length u.nc, .slice u.a u.ks.length u.cap]
/-- The struct as a value. -/
abbrev LM.val (u : LM) : Value := .agg #[.int .i64 u.k, .int .i64 u.m, .string u.n, .int .i64 u.t.k, .string u.t.n, .slice u.t.a u.t.ks.length u.t.cap, .slice u.na u.ns.length u.nc, .slice u.a u.ks.length u.cap]
theorem tmLen (u : LM) : (tmE u).length = 8 := rfl

theorem LM.ind {P : LM → Prop} (h : ∀ k m n t na nc ns a c ks, (∀ u ∈ ks, P u) → P (.mk k m n t na nc ns a c ks)) : ∀ u, P u := fun u =>
  LM.rec (motive_1 := P) (motive_2 := fun ks => ∀ u ∈ ks, P u) (fun k m n t na nc ns a c ks ih => h k m n t na nc ns a c ks ih) (fun _ h => by cases h)
    (fun t ts ht hts u hu => by
      rcases List.mem_cons.1 hu with rfl | hu
      · exact ht
      · exact hts u hu) u

def in64' (x : Int) : Prop := -9223372036854775808 ≤ x ∧ x ≤ 9223372036854775807

mutual
def LM.Ok (w : World) : LM → Prop
  | .mk k m n t na nc ns a cap ks => (in64' k ∧ in64' m ∧ n.size ≤ maxLen ∧ t.Ok w ∧ strSl w na nc ns) ∧ ks.length ≤ cap ∧ cap ≤ maxLen ∧ (ks = [] ∨ ∃ b o, a = some ⟨b, o, none⟩ ∧ rowM w ks b o)
def rowM (w : World) : List LM → Nat → Nat → Prop
  | [], _, _ => True
  | t :: ts, b, o => (∀ j v, (tmE t)[j]? = some v → w.cell? ⟨b, o + j, none⟩ = some v) ∧ t.Ok w ∧ rowM w ts b (o + 8)
end

theorem rowM_iff {w : World} : ∀ {ks : List LM} {b o : Nat}, rowM w ks b o ↔ gRow 8 tmE LM.Ok w ks b o
  | [], b, o => by unfold rowM; exact ⟨fun _ i hi => by simp at hi, fun _ => trivial⟩
  | t :: ts, b, o => by
    unfold rowM
    rw [rowM_iff (ks := ts)]
    constructor
    · rintro ⟨h1, h2, h3⟩ i hi
      cases i with
      | zero => exact ⟨fun j v hv => by have := h1 j v hv; simpa using this, h2⟩
      | succ i =>
        obtain ⟨c, d⟩ := h3 i (by simpa using hi)
        refine ⟨fun j v hv => ?_, d⟩
        have := c j v hv
        rw [show o + (i + 1) * 8 + j = o + 8 + i * 8 + j from by omega]
        exact this
    · intro h
      obtain ⟨h1, h2⟩ := h 0 (by simp)
      refine ⟨fun j v hv => by have := h1 j v hv; simpa using this, h2, fun i hi => ?_⟩
      obtain ⟨c, d⟩ := h (i + 1) (by simpa using hi)
      refine ⟨fun j v hv => ?_, d⟩
      have := c j v hv
      rw [show o + 8 + i * 8 + j = o + (i + 1) * 8 + j from by omega]
      exact this

/-- The slice of a term's kids. -/
abbrev tmSl (w : World) (a : Option Addr) (cap : Nat) (ks : List LM) : Prop := gSl 8 tmE LM.Ok w a cap ks
theorem LM.ok_iff {w : World} (u : LM) : u.Ok w ↔ (in64' u.k ∧ in64' u.m ∧ u.n.size ≤ maxLen ∧ u.t.Ok w ∧ strSl w u.na u.nc u.ns) ∧ tmSl w u.a u.cap u.ks := by
  obtain ⟨k, m, n, t, na, nc, ns, a, c, ks⟩ := u
  rw [LM.Ok]
  show _ ↔ (_ ∧ (ks.length ≤ c ∧ c ≤ maxLen ∧ (ks = [] ∨ ∃ b o, a = some ⟨b, o, none⟩ ∧ gRow 8 tmE LM.Ok w ks b o)))
  simp only [rowM_iff]
  rfl
theorem LM.Ok.kids {w : World} {u : LM} (h : u.Ok w) : tmSl w u.a u.cap u.ks := ((LM.ok_iff u).1 h).2
theorem LM.Ok.ty {w : World} {u : LM} (h : u.Ok w) : u.t.Ok w := ((LM.ok_iff u).1 h).1.2.2.2.1
theorem LM.Ok.nms {w : World} {u : LM} (h : u.Ok w) : strSl w u.na u.nc u.ns := ((LM.ok_iff u).1 h).1.2.2.2.2
theorem LM.Ok.nm {w : World} {u : LM} (h : u.Ok w) : u.n.size ≤ maxLen := ((LM.ok_iff u).1 h).1.2.2.1

theorem tmGr : gGr LM.Ok := fun w w' u h g => by
  revert h
  refine LM.ind (P := fun u => u.Ok w → u.Ok w') (fun k m n t na nc ns a c ks ih h => ?_) u
  obtain ⟨⟨h1, h2, h3, h4, h5⟩, h6, h7, h8⟩ := (LM.ok_iff _).1 h
  refine (LM.ok_iff _).2 ⟨⟨h1, h2, h3, h4.grow g, h5.grow sLen sGr g⟩, h6, h7, h8.imp id fun ⟨b, o, e, hr⟩ => ⟨b, o, e, fun i hi => ?_⟩⟩
  exact ⟨fun j v hv => (g.cell (p := ⟨_, _, _⟩) (cell_lt ((hr i hi).1 j v hv))).trans ((hr i hi).1 j v hv), ih _ (List.getElem_mem hi) (hr i hi).2⟩
theorem LM.Ok.grow {w w' : World} {u : LM} (h : u.Ok w) (g : Gw w w') : u.Ok w' := tmGr _ _ _ h g

/-- The blocks of a term. -/
def LM.bl : LM → List Nat
  | .mk _ _ _ t na _ ns a _ ks => t.bl ++ (nbl sB na ns ++ ((if ks.isEmpty then [] else match a with | some x => [x.block] | none => []) ++ bls ks))
where bls : List LM → List Nat
  | [] => []
  | t :: ts => t.bl ++ bls ts
theorem mbls_eq (ks : List LM) : LM.bl.bls ks = ks.flatMap LM.bl := by
  induction ks with
  | nil => rfl
  | cons t ts ih => simp only [LM.bl.bls, List.flatMap_cons]; rw [ih]
theorem LM.bl_eq (u : LM) : u.bl = u.t.bl ++ (nbl sB u.na u.ns ++ nbl LM.bl u.a u.ks) := by
  obtain ⟨k, m, n, t, na, nc, ns, a, c, ks⟩ := u
  have := mbls_eq ks
  rw [LM.bl.eq_def]
  simp only [this]
  rfl

theorem tmFr : gFr LM.Ok LM.bl := fun w w' u h hb => by
  revert h hb
  refine LM.ind (P := fun u => u.Ok w → (∀ b ∈ u.bl, w'.heap[b]? = w.heap[b]?) → u.Ok w') (fun k m n t na nc ns a c ks ih h hb => ?_) u
  obtain ⟨⟨h1, h2, h3, h4, h5⟩, h6, h7, h8⟩ := (LM.ok_iff _).1 h
  rw [LM.bl_eq] at hb
  simp only [LM.t, LM.na, LM.nc, LM.ns, LM.a, LM.cap, LM.ks, LM.k, LM.m, LM.n] at h1 h2 h3 h4 h5 h6 h7 h8 hb
  refine (LM.ok_iff _).2 ⟨⟨h1, h2, h3, h4.frame fun b hm => hb b (by simp [hm]), h5.frame (by decide) sLen sFr fun b hm => hb b (by simp [hm])⟩, h6, h7, h8.imp id fun ⟨b, o, e, hr⟩ => ⟨b, o, e, fun i hi => ?_⟩⟩
  have hne : ks.isEmpty = false := by cases ks with | nil => simp [LM.ks] at hi | cons => rfl
  have hbb : w'.heap[b]? = w.heap[b]? := hb b (by
    rw [e]
    refine List.mem_append_right _ (List.mem_append_right _ ?_)
    unfold nbl
    rw [hne]; simp)
  exact ⟨fun j v hv => (World.cell?_of_block (w := w) (w' := w') (a := ⟨b, o + i * 8 + j, none⟩) hbb).trans ((hr i hi).1 j v hv),
    ih _ (List.getElem_mem hi) (hr i hi).2 fun x hx => hb x (List.mem_append_right _ (List.mem_append_right _ (nbl_sub (List.getElem_mem hi) x hx)))⟩
theorem LM.Ok.drew {w : World} {u : LM} (h : u.Ok w) : u.Ok w.drew := tmFr _ _ _ h fun _ _ => rfl

/-- What lies at place i of a row of terms. -/
theorem tmRow_get {w : World} {ks : List LM} {b o : Nat} (h : gRow 8 tmE LM.Ok w ks b o) (i : Nat) (hi : i < ks.length) :
    w.cell? ⟨b, o + i * 8, none⟩ = some (.int .i64 ks[i].k) ∧ w.cell? ⟨b, o + i * 8 + 1, none⟩ = some (.int .i64 ks[i].m) ∧ w.cell? ⟨b, o + i * 8 + 2, none⟩ = some (.string ks[i].n) ∧
    w.cell? ⟨b, o + i * 8 + 3, none⟩ = some (.int .i64 ks[i].t.k) ∧ w.cell? ⟨b, o + i * 8 + 4, none⟩ = some (.string ks[i].t.n) ∧ w.cell? ⟨b, o + i * 8 + 5, none⟩ = some (.slice ks[i].t.a ks[i].t.ks.length ks[i].t.cap) ∧
    w.cell? ⟨b, o + i * 8 + 6, none⟩ = some (.slice ks[i].na ks[i].ns.length ks[i].nc) ∧ w.cell? ⟨b, o + i * 8 + 7, none⟩ = some (.slice ks[i].a ks[i].ks.length ks[i].cap) ∧ ks[i].Ok w := by
  obtain ⟨h1, h2⟩ := h i hi
  exact ⟨h1 0 _ rfl, h1 1 _ rfl, h1 2 _ rfl, h1 3 _ rfl, h1 4 _ rfl, h1 5 _ rfl, h1 6 _ rfl, h1 7 _ rfl, h2⟩

/-- A term without addresses. -/
inductive Tm where
  | mk (k m : Int) (n : ByteArray) (t : Ty) (ns : List ByteArray) (ks : List Tm)
def LM.tm : LM → Tm
  | .mk k m n t _ _ ns _ _ ks => .mk k m n t.ty ns (tms ks)
where tms : List LM → List Tm
  | [] => []
  | t :: ts => t.tm :: tms ts
theorem tms_eq (ks : List LM) : LM.tm.tms ks = ks.map LM.tm := by
  induction ks with
  | nil => rfl
  | cons t ts ih => simp [LM.tm.tms, ih]
theorem LM.tm_eq (u : LM) : u.tm = .mk u.k u.m u.n u.t.ty u.ns (u.ks.map LM.tm) := by
  obtain ⟨k, m, n, t, na, nc, ns, a, c, ks⟩ := u
  rw [LM.tm, tms_eq]; rfl

/-- What the laws count. -/
def ssz (ns : List ByteArray) : Nat := (ns.map fun s => 1 + s.size).sum
def LM.sz : LM → Nat
  | .mk _ _ n t _ _ ns _ _ ks => n.size + t.sz + ssz ns + szl ks
where szl : List LM → Nat
  | [] => 0
  | t :: ts => 1 + t.sz + szl ts
theorem mszl_eq (ks : List LM) : LM.sz.szl ks = sm LM.sz ks := by
  induction ks with
  | nil => rfl
  | cons t ts ih => rw [sm_cons]; simp only [LM.sz.szl]; rw [ih]
theorem LM.sz_eq (u : LM) : u.sz = u.n.size + u.t.sz + ssz u.ns + sm LM.sz u.ks := by
  obtain ⟨k, m, n, t, na, nc, ns, a, c, ks⟩ := u
  rw [LM.sz, mszl_eq]; rfl

end Go.Proofs.Ytpafjhnamdeagaa.Con
