/-
  Declarations as they lie in memory: a struct of a name and a slice ('LN'), twice: constructors over types, data over constructors. No program in it, no condition.
-/
import Derived.Test.YtpafjhnamdeagaaTy
namespace Go.Proofs.Ytpafjhnamdeagaa.Con
open Go.RowKit Go.ChangeShapes Go.WideShapes Go.ChangeAt Go.Deep
set_option linter.unusedVariables false

structure LN (α : Type) where
  n : ByteArray
  a : Option Addr
  cap : Nat
  xs : List α

abbrev LC := LN LT
abbrev LD := LN LC
/-- The struct as a value. -/
abbrev LN.val {α : Type} (c : LN α) : Value := .agg #[.string c.n, .slice c.a c.xs.length c.cap]

/-- A row of such structs lies in memory. -/
def nrow {α : Type} (ok : World → LN α → Prop) (w : World) (cs : List (LN α)) (b o : Nat) : Prop :=
  ∀ i (h : i < cs.length), w.cell? ⟨b, o + i * 2, none⟩ = some (.string cs[i].n) ∧ w.cell? ⟨b, o + i * 2 + 1, none⟩ = some (.slice cs[i].a cs[i].xs.length cs[i].cap) ∧ ok w cs[i]
def nsl {α : Type} (ok : World → LN α → Prop) (w : World) (a : Option Addr) (cap : Nat) (cs : List (LN α)) : Prop :=
  cs.length ≤ cap ∧ cap ≤ maxLen ∧ (cs = [] ∨ ∃ b o, a = some ⟨b, o, none⟩ ∧ nrow ok w cs b o)

def cOk (w : World) (c : LC) : Prop := c.n.size ≤ maxLen ∧ slOk w c.a c.cap c.xs
abbrev csOk (w : World) (a : Option Addr) (cap : Nat) (cs : List LC) : Prop := nsl cOk w a cap cs
def dOk (w : World) (d : LD) : Prop := d.n.size ≤ maxLen ∧ csOk w d.a d.cap d.xs
abbrev dsOk (w : World) (a : Option Addr) (cap : Nat) (ds : List LD) : Prop := nsl dOk w a cap ds

theorem nrow.grow {α : Type} {ok : World → LN α → Prop} {w w' : World} {cs : List (LN α)} {b o : Nat} (h : nrow ok w cs b o) (g : Below w.heap.size w w') (hok : ∀ c, ok w c → ok w' c) : nrow ok w' cs b o := fun i hi => by
  obtain ⟨h0, h1, h2⟩ := h i hi
  exact ⟨(g.cell (p := ⟨_, _, _⟩) (cell_lt h0)).trans h0, (g.cell (p := ⟨_, _, _⟩) (cell_lt h1)).trans h1, hok _ h2⟩
theorem nsl.grow {α : Type} {ok : World → LN α → Prop} {w w' : World} {a : Option Addr} {cap : Nat} {cs : List (LN α)} (h : nsl ok w a cap cs) (g : Below w.heap.size w w') (hok : ∀ c, ok w c → ok w' c) : nsl ok w' a cap cs :=
  ⟨h.1, h.2.1, h.2.2.imp id fun ⟨b, o, e, hr⟩ => ⟨b, o, e, hr.grow g hok⟩⟩
theorem cOk.grow {w w' : World} {c : LC} (h : cOk w c) (g : Below w.heap.size w w') : cOk w' c := ⟨h.1, h.2.grow g⟩
theorem csOk.grow {w w' : World} {a : Option Addr} {cap : Nat} {cs : List LC} (h : csOk w a cap cs) (g : Below w.heap.size w w') : csOk w' a cap cs := nsl.grow h g fun _ h => h.grow g
theorem dOk.grow {w w' : World} {d : LD} (h : dOk w d) (g : Below w.heap.size w w') : dOk w' d := ⟨h.1, csOk.grow h.2 g⟩
theorem dsOk.grow {w w' : World} {a : Option Addr} {cap : Nat} {ds : List LD} (h : dsOk w a cap ds) (g : Below w.heap.size w w') : dsOk w' a cap ds := nsl.grow h g fun _ h => h.grow g

/-- What the laws count. -/
def csz (c : LC) : Nat := c.n.size + LT.sz.szl c.xs
def cszl (cs : List LC) : Nat := (cs.map fun c => 1 + csz c).sum
def dsz (d : LD) : Nat := d.n.size + cszl d.xs
def dszl (ds : List LD) : Nat := (ds.map fun d => 1 + dsz d).sum

/-- A slice that can be read, element by element. -/
theorem sl_of_trod {α H : Type} {enc : TypeId × Value → H} {P : Program} {W : World} {ts te : TypeId} {k : Nat} (cE : α → List Value) (okE : α → Prop) (hk : 0 < k) (hlen : ∀ u, (cE u).length = k)
    (us : P.underlying ts = some (.slice te)) (ct : P.cellsOf te = k) (fuel : Nat) (hE : ∀ m, m < fuel → ∀ (vs : List Value) (x : DataW H × List MemPlace), DataW.trod enc P W 0 (fun _ => true) true m te vs = some x → ∃ u : α, vs = cE u ∧ okE u)
    (v : Value) (x : DataW H × List MemPlace) (h : DataW.trod enc P W 0 (fun _ => true) true fuel ts [v] = some x) :
    ∃ (a : Option Addr) (cap : Nat) (xs : List α), v = .slice a xs.length cap ∧ xs.length ≤ cap ∧ cap ≤ maxLen ∧ (xs = [] ∨ ∃ b o, a = some ⟨b, o, none⟩ ∧ ∀ i (h : i < xs.length), (∀ j v, (cE xs[i])[j]? = some v → W.cell? ⟨b, o + i * k + j, none⟩ = some v) ∧ okE xs[i]) := by
  rcases DataW.trod_slice us h with ⟨e2, _⟩ | ⟨a, len, cap, elems, rest, m', hm', e2, _, _, hlc, hcap, hlen', hel, _, _⟩
  · obtain rfl : v = .slice none 0 0 := by simpa using e2
    exact ⟨none, 0, [], rfl, Nat.le_refl _, Nat.zero_le _, .inl rfl⟩
  · obtain rfl : v = .slice (some a) len cap := by simpa using e2
    have hall : ∀ i, i < len → ∃ u : α, W.cells? 0 (a.add (i * k)) k = some (cE u) ∧ okE u := fun i hi => by
      have h1 := hel i hi
      rw [ct, List.getElem?_eq_getElem (by omega)] at h1
      obtain ⟨cs', h2, h3⟩ := Option.bind_eq_some_iff.1 h1
      obtain ⟨u, rfl, hu⟩ := hE m' (by omega) cs' _ h3
      exact ⟨u, h2, hu⟩
    by_cases h0 : len = 0
    · subst h0
      exact ⟨some a, cap, [], rfl, hlc, hcap, .inl rfl⟩
    obtain ⟨u0, _⟩ := hall 0 (by omega)
    haveI : Inhabited α := ⟨u0⟩
    obtain ⟨f, hf⟩ := choose_lt hall
    have hcells : ∀ i, i < len → ∀ j (v : Value), (cE (f i))[j]? = some v → W.cell? (a.add (i * k + j)) = some v := fun i hi j v hv => by
      obtain ⟨_, _, h5⟩ := World.cells?_some (hf i hi).1
      have hj : j < k := by
        have := (List.getElem?_eq_some_iff.1 hv).1
        rw [hlen] at this
        exact this
      have := h5 j hj
      rw [add_add] at this
      rw [this, hv]
    refine ⟨some a, cap, (List.range len).map f, by simp, by simpa using hlc, hcap, ?_⟩
    obtain ⟨b, o, sp⟩ := a
    have hs : sp = none := by
      obtain ⟨v0, hv0⟩ : ∃ v0, (cE (f 0))[0]? = some v0 := ⟨_, List.getElem?_eq_getElem (by rw [hlen]; exact hk)⟩
      have := hcells 0 (by omega) 0 _ hv0
      cases sp with
      | none => rfl
      | some s => simp [World.cell?, Addr.add] at this; split at this <;> simp at this
    subst hs
    refine .inr ⟨b, o, rfl, fun i hi => ?_⟩
    have hi' : i < len := by simpa using hi
    have e : ((List.range len).map f)[i]'hi = f i := by simp
    rw [e]
    have ha : ∀ j, (Addr.mk b o none).add j = ⟨b, o + j, none⟩ := fun j => by unfold Addr.add; split <;> simp_all
    refine ⟨fun j v hv => ?_, (hf i hi').2⟩
    have := hcells i hi' j v hv
    rw [ha] at this
    rw [Nat.add_assoc]
    exact this

/-- A struct of a name and a slice that can be read. -/
theorem ln_of_trod {α H : Type} {enc : TypeId × Value → H} {P : Program} {W : World} {t ts te kn : TypeId} {k : Nat} {f0 f1 : Field} (cE : α → List Value) (okE : α → Prop) (hk : 0 < k) (hlen : ∀ u, (cE u).length = k)
    (ht : P.underlying t = some (.struct #[f0, f1])) (h0 : f0.type = kn) (h1 : f1.type = ts) (o0 : f0.offset = 0) (o1 : f1.offset = 1) (un : P.underlying kn = some .string) (us : P.underlying ts = some (.slice te))
    (cn : P.cellsOf kn = 1) (cs : P.cellsOf ts = 1) (ct : P.cellsOf t = 2) (ce : P.cellsOf te = k) (fuel : Nat)
    (hE : ∀ m, m < fuel → ∀ (vs : List Value) (x : DataW H × List MemPlace), DataW.trod enc P W 0 (fun _ => true) true m te vs = some x → ∃ u : α, vs = cE u ∧ okE u)
    (vs : List Value) (x : DataW H × List MemPlace) (h : DataW.trod enc P W 0 (fun _ => true) true fuel t vs = some x) :
    ∃ d : LN α, vs = [.string d.n, .slice d.a d.xs.length d.cap] ∧ d.n.size ≤ maxLen ∧ d.xs.length ≤ d.cap ∧ d.cap ≤ maxLen ∧ (d.xs = [] ∨ ∃ b o, d.a = some ⟨b, o, none⟩ ∧ ∀ i (h : i < d.xs.length), (∀ j v, (cE d.xs[i])[j]? = some v → W.cell? ⟨b, o + i * k + j, none⟩ = some v) ∧ okE d.xs[i]) := by
  obtain ⟨xs, m, hm, hx, hl, hlen', hf⟩ := DataW.trod_struct ht h
  match xs, hlen' with
  | [y0, y1], _ =>
  have g0 := hf 0 f0 rfl
  have g1 := hf 1 f1 rfl
  rw [h0, o0, cn] at g0
  rw [h1, o1, cs] at g1
  rw [ct] at hl
  match vs, hl with
  | [v0, v1], _ =>
  simp only [List.drop_zero, List.take_succ_cons, List.take_zero, List.drop_succ_cons, List.getElem?_cons_zero, List.getElem?_cons_succ] at g0 g1
  obtain ⟨n, e1, _, wn⟩ := DataW.trod_string un g0
  obtain rfl : v0 = .string n := by simpa using e1
  obtain ⟨a, cap, xs, rfl, q1, q2, q3⟩ := sl_of_trod cE okE hk hlen us ce m (fun m' hm' => hE m' (by omega)) v1 _ g1
  exact ⟨⟨n, a, cap, xs⟩, rfl, wn, q1, q2, q3⟩

end Go.Proofs.Ytpafjhnamdeagaa.Con
