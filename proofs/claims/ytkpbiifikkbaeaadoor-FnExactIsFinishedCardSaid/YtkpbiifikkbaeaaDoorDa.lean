/-
  Declarations as they lie in memory: a struct of a name and a slice ('LN'), twice: constructors over types, data over constructors. No program in it, no condition.
  An argument that is a list of declarations, opened. No condition.
  Declarations in blocks of their own: what stays, and a row of them that is filled one by one ('FillN'). No program in it, no condition.
-/
import Derived.Test.YtkpbiifikkbaeaaDoorTy
import Derived.Test.YtkpbiifikkbaeaaDoorTyTo
namespace Go.Proofs.YtkpbiifikkbaeaaDoor.Con
open Go.RowKit Go.ChangeShapes Go.WideShapes Go.ChangeAt Go.Deep
set_option linter.unusedVariables false

structure LN (α : Type) where
  n : ByteArray
  a : Option Addr
  cap : Nat
  xs : List α

abbrev LC := LN LT
abbrev LD := LN LC
/-- The struct as a value. -/
abbrev LN.val {α : Type} (c : LN α) : Value := .agg #[.string c.n, .slice c.a c.xs.length c.cap]

/-- A row of such structs lies in memory. -/
def nrow {α : Type} (ok : World → LN α → Prop) (w : World) (cs : List (LN α)) (b o : Nat) : Prop :=
  ∀ i (h : i < cs.length), w.cell? ⟨b, o + i * 2, none⟩ = some (.string cs[i].n) ∧ w.cell? ⟨b, o + i * 2 + 1, none⟩ = some (.slice cs[i].a cs[i].xs.length cs[i].cap) ∧ ok w cs[i]
def nsl {α : Type} (ok : World → LN α → Prop) (w : World) (a : Option Addr) (cap : Nat) (cs : List (LN α)) : Prop :=
  cs.length ≤ cap ∧ cap ≤ maxLen ∧ (cs = [] ∨ ∃ b o, a = some ⟨b, o, none⟩ ∧ nrow ok w cs b o)

def cOk (w : World) (c : LC) : Prop := c.n.size ≤ maxLen ∧ slOk w c.a c.cap c.xs
abbrev csOk (w : World) (a : Option Addr) (cap : Nat) (cs : List LC) : Prop := nsl cOk w a cap cs
def dOk (w : World) (d : LD) : Prop := d.n.size ≤ maxLen ∧ csOk w d.a d.cap d.xs
abbrev dsOk (w : World) (a : Option Addr) (cap : Nat) (ds : List LD) : Prop := nsl dOk w a cap ds

theorem nrow.grow {α : Type} {ok : World → LN α → Prop} {w w' : World} {cs : List (LN α)} {b o : Nat} (h : nrow ok w cs b o) (g : Below w.heap.size w w') (hok : ∀ c, ok w c → ok w' c) : nrow ok w' cs b o := fun i hi => by
  obtain ⟨h0, h1, h2⟩ := h i hi
  exact ⟨(g.cell (p := ⟨_, _, _⟩) (cell_lt h0)).trans h0, (g.cell (p := ⟨_, _, _⟩) (cell_lt h1)).trans h1, hok _ h2⟩
theorem nsl.grow {α : Type} {ok : World → LN α → Prop} {w w' : World} {a : Option Addr} {cap : Nat} {cs : List (LN α)} (h : nsl ok w a cap cs) (g : Below w.heap.size w w') (hok : ∀ c, ok w c → ok w' c) : nsl ok w' a cap cs :=
  ⟨h.1, h.2.1, h.2.2.imp id fun ⟨b, o, e, hr⟩ => ⟨b, o, e, hr.grow g hok⟩⟩
theorem cOk.grow {w w' : World} {c : LC} (h : cOk w c) (g : Below w.heap.size w w') : cOk w' c := ⟨h.1, h.2.grow g⟩
theorem csOk.grow {w w' : World} {a : Option Addr} {cap : Nat} {cs : List LC} (h : csOk w a cap cs) (g : Below w.heap.size w w') : csOk w' a cap cs := nsl.grow h g fun _ h => h.grow g
theorem dOk.grow {w w' : World} {d : LD} (h : dOk w d) (g : Below w.heap.size w w') : dOk w' d := ⟨h.1, csOk.grow h.2 g⟩
theorem dsOk.grow {w w' : World} {a : Option Addr} {cap : Nat} {ds : List LD} (h : dsOk w a cap ds) (g : Below w.heap.size w w') : dsOk w' a cap ds := nsl.grow h g fun _ h => h.grow g

/-- What the laws count. -/
def csz (c : LC) : Nat := c.n.size + LT.sz.szl c.xs
def cszl (cs : List LC) : Nat := (cs.map fun c => 1 + csz c).sum
def dsz (d : LD) : Nat := d.n.size + cszl d.xs
def dszl (ds : List LD) : Nat := (ds.map fun d => 1 + dsz d).sum

/-- A slice that can be read, element by element. -/
theorem sl_of_trod {α H : Type} {enc : TypeId × Value → H} {P : Program} {W : World} {ts te : TypeId} {k : Nat} (cE : α → List Value) (okE : α → Prop) (hk : 0 < k) (hlen : ∀ u, (cE u).length = k)
    (us : P.underlying ts = some (.slice te)) (ct : P.cellsOf te = k) (fuel : Nat) (hE : ∀ m, m < fuel → ∀ (vs : List Value) (x : DataW H × List MemPlace), DataW.trod enc P W 0 (fun _ => true) true m te vs = some x → ∃ u : α, vs = cE u ∧ okE u)
    (v : Value) (x : DataW H × List MemPlace) (h : DataW.trod enc P W 0 (fun _ => true) true fuel ts [v] = some x) :
    ∃ (a : Option Addr) (cap : Nat) (xs : List α), v = .slice a xs.length cap ∧ xs.length ≤ cap ∧ cap ≤ maxLen ∧ (xs = [] ∨ ∃ b o, a = some ⟨b, o, none⟩ ∧ ∀ i (h : i < xs.length), (∀ j v, (cE xs[i])[j]? = some v → W.cell? ⟨b, o + i * k + j, none⟩ = some v) ∧ okE xs[i]) := by
  rcases DataW.trod_slice us h with ⟨e2, _⟩ | ⟨a, len, cap, elems, rest, m', hm', e2, _, _, hlc, hcap, hlen', hel, _, _⟩
  · obtain rfl : v = .slice none 0 0 := by simpa using e2
    exact ⟨none, 0, [], rfl, Nat.le_refl _, Nat.zero_le _, .inl rfl⟩
  · obtain rfl : v = .slice (some a) len cap := by simpa using e2
    have hall : ∀ i, i < len → ∃ u : α, W.cells? 0 (a.add (i * k)) k = some (cE u) ∧ okE u := fun i hi => by
      have h1 := hel i hi
      rw [ct, List.getElem?_eq_getElem (by omega)] at h1
      obtain ⟨cs', h2, h3⟩ := Option.bind_eq_some_iff.1 h1
      obtain ⟨u, rfl, hu⟩ := hE m' (by omega) cs' _ h3
      exact ⟨u, h2, hu⟩
    by_cases h0 : len = 0
    · subst h0
      exact ⟨some a, cap, [], rfl, hlc, hcap, .inl rfl⟩
    obtain ⟨u0, _⟩ := hall 0 (by omega)
    haveI : Inhabited α := ⟨u0⟩
    obtain ⟨f, hf⟩ := choose_lt hall
    have hcells : ∀ i, i < len → ∀ j (v : Value), (cE (f i))[j]? = some v → W.cell? (a.add (i * k + j)) = some v := fun i hi j v hv => by
      obtain ⟨_, _, h5⟩ := World.cells?_some (hf i hi).1
      have hj : j < k := by
        have := (List.getElem?_eq_some_iff.1 hv).1
        rw [hlen] at this
        exact this
      have := h5 j hj
      rw [add_add] at this
      rw [this, hv]
    refine ⟨some a, cap, (List.range len).map f, by simp, by simpa using hlc, hcap, ?_⟩
    obtain ⟨b, o, sp⟩ := a
    have hs : sp = none := by
      obtain ⟨v0, hv0⟩ : ∃ v0, (cE (f 0))[0]? = some v0 := ⟨_, List.getElem?_eq_getElem (by rw [hlen]; exact hk)⟩
      have := hcells 0 (by omega) 0 _ hv0
      cases sp with
      | none => rfl
      | some s => simp [World.cell?, Addr.add] at this; split at this <;> simp at this
    subst hs
    refine .inr ⟨b, o, rfl, fun i hi => ?_⟩
    have hi' : i < len := by simpa using hi
    have e : ((List.range len).map f)[i]'hi = f i := by simp
    rw [e]
    have ha : ∀ j, (Addr.mk b o none).add j = ⟨b, o + j, none⟩ := fun j => by unfold Addr.add; split <;> simp_all
    refine ⟨fun j v hv => ?_, (hf i hi').2⟩
    have := hcells i hi' j v hv
    rw [ha] at this
    rw [Nat.add_assoc]
    exact this

/-- A struct of a name and a slice that can be read. -/
theorem ln_of_trod {α H : Type} {enc : TypeId × Value → H} {P : Program} {W : World} {t ts te kn : TypeId} {k : Nat} {f0 f1 : Field} (cE : α → List Value) (okE : α → Prop) (hk : 0 < k) (hlen : ∀ u, (cE u).length = k)
    (ht : P.underlying t = some (.struct #[f0, f1])) (h0 : f0.type = kn) (h1 : f1.type = ts) (o0 : f0.offset = 0) (o1 : f1.offset = 1) (un : P.underlying kn = some .string) (us : P.underlying ts = some (.slice te))
    (cn : P.cellsOf kn = 1) (cs : P.cellsOf ts = 1) (ct : P.cellsOf t = 2) (ce : P.cellsOf te = k) (fuel : Nat)
    (hE : ∀ m, m < fuel → ∀ (vs : List Value) (x : DataW H × List MemPlace), DataW.trod enc P W 0 (fun _ => true) true m te vs = some x → ∃ u : α, vs = cE u ∧ okE u)
    (vs : List Value) (x : DataW H × List MemPlace) (h : DataW.trod enc P W 0 (fun _ => true) true fuel t vs = some x) :
    ∃ d : LN α, vs = [.string d.n, .slice d.a d.xs.length d.cap] ∧ d.n.size ≤ maxLen ∧ d.xs.length ≤ d.cap ∧ d.cap ≤ maxLen ∧ (d.xs = [] ∨ ∃ b o, d.a = some ⟨b, o, none⟩ ∧ ∀ i (h : i < d.xs.length), (∀ j v, (cE d.xs[i])[j]? = some v → W.cell? ⟨b, o + i * k + j, none⟩ = some v) ∧ okE d.xs[i]) := by
  obtain ⟨xs, m, hm, hx, hl, hlen', hf⟩ := DataW.trod_struct ht h
  match xs, hlen' with
  | [y0, y1], _ =>
  have g0 := hf 0 f0 rfl
  have g1 := hf 1 f1 rfl
  rw [h0, o0, cn] at g0
  rw [h1, o1, cs] at g1
  rw [ct] at hl
  match vs, hl with
  | [v0, v1], _ =>
  simp only [List.drop_zero, List.take_succ_cons, List.take_zero, List.drop_succ_cons, List.getElem?_cons_zero, List.getElem?_cons_succ] at g0 g1
  obtain ⟨n, e1, _, wn⟩ := DataW.trod_string un g0
  obtain rfl : v0 = .string n := by simpa using e1
  obtain ⟨a, cap, xs, rfl, q1, q2, q3⟩ := sl_of_trod cE okE hk hlen us ce m (fun m' hm' => hE m' (by omega)) v1 _ g1
  exact ⟨⟨n, a, cap, xs⟩, rfl, wn, q1, q2, q3⟩

end Go.Proofs.YtkpbiifikkbaeaaDoor.Con

namespace Go.Proofs.YtkpbiifikkbaeaaDoor.Con
open Go.RowKit Go.ChangeShapes Go.WideShapes Go.ChangeAt Go.Deep
set_option linter.unusedVariables false

def tc (u : LT) : List Value := [.int .i64 u.k, .string u.n, .slice u.a u.ks.length u.cap]
def nc {α : Type} (d : LN α) : List Value := [.string d.n, .slice d.a d.xs.length d.cap]

theorem slOk_of {W : World} {a : Option Addr} {cap : Nat} {xs : List LT} (h1 : xs.length ≤ cap) (h2 : cap ≤ maxLen) (h3 : xs = [] ∨ ∃ b o, a = some ⟨b, o, none⟩ ∧ ∀ i (h : i < xs.length), (∀ j v, (tc xs[i])[j]? = some v → W.cell? ⟨b, o + i * 3 + j, none⟩ = some v) ∧ xs[i].Ok W) : slOk W a cap xs := by
  refine ⟨h1, h2, h3.imp id fun ⟨b, o, e, h⟩ => ⟨b, o, e, rowOk_mk fun i hi => ?_⟩⟩
  obtain ⟨h4, h5⟩ := h i hi
  have q0 := h4 0 _ rfl
  have q1 := h4 1 _ rfl
  have q2 := h4 2 _ rfl
  rw [Nat.mul_comm 3 i]
  exact ⟨q0, q1, q2, h5⟩
theorem nsl_of {α : Type} {ok : World → LN α → Prop} {W : World} {a : Option Addr} {cap : Nat} {xs : List (LN α)} (h1 : xs.length ≤ cap) (h2 : cap ≤ maxLen) (h3 : xs = [] ∨ ∃ b o, a = some ⟨b, o, none⟩ ∧ ∀ i (h : i < xs.length), (∀ j v, (nc xs[i])[j]? = some v → W.cell? ⟨b, o + i * 2 + j, none⟩ = some v) ∧ ok W xs[i]) : nsl ok W a cap xs := by
  refine ⟨h1, h2, h3.imp id fun ⟨b, o, e, h⟩ => ⟨b, o, e, fun i hi => ?_⟩⟩
  obtain ⟨h4, h5⟩ := h i hi
  exact ⟨h4 0 _ rfl, h4 1 _ rfl, h5⟩

end Go.Proofs.YtkpbiifikkbaeaaDoor.Con

namespace Go.Proofs.YtkpbiifikkbaeaaDoor.Con
open Go.RowKit
set_option linter.unusedVariables false

/-- The blocks of a slice whose elements have blocks. -/
def nbl {α : Type} (cb : α → List Nat) (a : Option Addr) (xs : List α) : List Nat := (if xs.isEmpty then [] else match a with | some x => [x.block] | none => []) ++ xs.flatMap cb
def cbl (c : LC) : List Nat := (LT.mk 0 ⟨#[]⟩ c.a c.cap c.xs).bl
def dbl (d : LD) : List Nat := nbl cbl d.a d.xs

def NewE {α : Type} (ok : World → LN α → Prop) (cb : LN α → List Nat) (B : Nat) (w : World) (c : LN α) : Prop := ok w c ∧ (cb c).Nodup ∧ ∀ b ∈ cb c, B ≤ b ∧ Free w b
def NewSl {α : Type} (ok : World → LN α → Prop) (cb : LN α → List Nat) (B : Nat) (w : World) (a : Option Addr) (cap : Nat) (cs : List (LN α)) : Prop := nsl ok w a cap cs ∧ (nbl cb a cs).Nodup ∧ ∀ b ∈ nbl cb a cs, B ≤ b ∧ Free w b

def Frames {α : Type} (ok : World → LN α → Prop) (cb : LN α → List Nat) : Prop := ∀ (w w' : World) (c : LN α), ok w c → (∀ b ∈ cb c, w'.heap[b]? = w.heap[b]?) → ok w' c

theorem nbl_sub {α : Type} {cb : α → List Nat} {a : Option Addr} {xs : List α} {x : α} (h : x ∈ xs) : ∀ b ∈ cb x, b ∈ nbl cb a xs := fun b hb => List.mem_append_right _ (List.mem_flatMap.2 ⟨x, h, hb⟩)

theorem nsl.frame {α : Type} {ok : World → LN α → Prop} {cb : LN α → List Nat} (hf : Frames ok cb) {w w' : World} {a : Option Addr} {cap : Nat} {cs : List (LN α)} (h : nsl ok w a cap cs) (hb : ∀ b ∈ nbl cb a cs, w'.heap[b]? = w.heap[b]?) : nsl ok w' a cap cs := by
  refine ⟨h.1, h.2.1, h.2.2.imp id fun ⟨b, o, e, hr⟩ => ⟨b, o, e, fun i hi => ?_⟩⟩
  obtain ⟨c0, c1, c2⟩ := hr i hi
  have hne : cs.isEmpty = false := by cases cs with | nil => simp at hi | cons => rfl
  have hbb : w'.heap[b]? = w.heap[b]? := hb b (by unfold nbl; rw [hne, e]; simp)
  have hc : ∀ p, w'.cell? ⟨b, p, none⟩ = w.cell? ⟨b, p, none⟩ := fun p => World.cell?_of_block (w := w) (w' := w') (a := ⟨b, p, none⟩) hbb
  exact ⟨(hc _).trans c0, (hc _).trans c1, hf _ _ _ c2 fun x hx => hb x (nbl_sub (List.getElem_mem hi) x hx)⟩

theorem cFrames : Frames cOk cbl := fun w w' c h hb => by
  refine ⟨h.1, ?_⟩
  have h2 : (LT.mk 0 ⟨#[]⟩ c.a c.cap c.xs).Ok w := LT.ok_mk (Nat.zero_le _) (by simp [LT.k]) (by simp [LT.k]) h.2
  exact (h2.frame hb).kids
theorem dFrames : Frames dOk dbl := fun w w' d h hb => ⟨h.1, nsl.frame cFrames h.2 hb⟩

theorem NewE.c {B : Nat} {w : World} {c : LC} (h : slNew B w c.a c.cap c.xs) (hn : c.n.size ≤ maxLen) : NewE cOk cbl B w c := ⟨⟨hn, h.ok⟩, h.2.1, h.2.2⟩
theorem NewE.d {B : Nat} {w : World} {d : LD} (h : NewSl cOk cbl B w d.a d.cap d.xs) (hn : d.n.size ≤ maxLen) : NewE dOk dbl B w d := ⟨⟨hn, h.1⟩, h.2.1, h.2.2⟩
theorem NewE.mono {α : Type} {ok : World → LN α → Prop} {cb : LN α → List Nat} {B B' : Nat} {w : World} {c : LN α} (h : NewE ok cb B w c) (hB : B' ≤ B) : NewE ok cb B' w c := ⟨h.1, h.2.1, fun b hb => ⟨Nat.le_trans hB (h.2.2 b hb).1, (h.2.2 b hb).2⟩⟩
theorem NewE.far {α : Type} {ok : World → LN α → Prop} {cb : LN α → List Nat} (hf : Frames ok cb) {B : Nat} {w : World} {c : LN α} (h : NewE ok cb B w c) (p : Addr) (hp : p.block ∉ cb c) (v : Value) : NewE ok cb B (w.setCell p v) c :=
  ⟨hf _ _ _ h.1 fun b hb => Below.heap_setCell w p v b (fun e => hp (e ▸ hb)), h.2.1, fun b hb => ⟨(h.2.2 b hb).1, (h.2.2 b hb).2.set _ _⟩⟩

/-- A row that is filled one by one. -/
def FillN {α : Type} (ok : World → LN α → Prop) (cb : LN α → List Nat) (w : World) (g n : Nat) (us : List (LN α)) : Prop :=
  us.length ≤ n ∧ (∃ cs e, w.heap[g]? = some (.cells cs e (0, 0)) ∧ cs.size = 2 * n) ∧ nrow ok w us g 0 ∧ (us.flatMap cb).Nodup ∧ ∀ b ∈ us.flatMap cb, g < b ∧ Free w b

section
variable {α : Type} {ok : World → LN α → Prop} {cb : LN α → List Nat}

theorem FillN.start (w : World) (g n : Nat) (h : ∃ cs e, w.heap[g]? = some (.cells cs e (0, 0)) ∧ cs.size = 2 * n) : FillN ok cb w g n [] :=
  ⟨Nat.zero_le _, h, fun i hi => by simp at hi, List.nodup_nil, fun _ h => by cases h⟩
theorem FillN.grow (hok : ∀ {w w' : World} {c : LN α}, ok w c → Below w.heap.size w w' → ok w' c) {w w' : World} {g n : Nat} {us : List (LN α)} (h : FillN ok cb w g n us) (gr : Below w.heap.size w w') : FillN ok cb w' g n us := by
  obtain ⟨h0, ⟨cs, e, h1, h2⟩, h3, h4, h5⟩ := h
  exact ⟨h0, ⟨cs, e, (gr.block g (Array.getElem?_eq_some_iff.1 h1).1).trans h1, h2⟩, h3.grow gr (fun _ h => hok h gr), h4, fun b hb => ⟨(h5 b hb).1, (h5 b hb).2.grow gr⟩⟩
theorem FillN.room {w : World} {g n : Nat} {us : List (LN α)} (h : FillN ok cb w g n us) (j : Nat) (hj : j < 2 * n) : ∃ v, w.cell? ⟨g, j, none⟩ = some v := by
  obtain ⟨_, ⟨cs, e, h1, h2⟩, _⟩ := h
  exact ⟨cs[j]'(by omega), by rw [cell_of_row w g j cs e _ h1, Array.getElem?_eq_getElem]⟩
theorem FillN.free {w : World} {g n : Nat} {us : List (LN α)} (h : FillN ok cb w g n us) (j : Nat) : w.frozen? ⟨g, j, none⟩ = false := by
  obtain ⟨_, ⟨cs, e, h1, h2⟩, _⟩ := h
  simp [World.frozen?, h1]
theorem FillN.lt {w : World} {g n : Nat} {us : List (LN α)} (h : FillN ok cb w g n us) : g < w.heap.size := by
  obtain ⟨_, ⟨cs, e, h1, _⟩, _⟩ := h
  exact (Array.getElem?_eq_some_iff.1 h1).1

/-- One place more: the two stores of a struct. -/
theorem FillN.put (hf : Frames ok cb) {w : World} {g n : Nat} {us : List (LN α)} (h : FillN ok cb w g n us) (hn : us.length < n) {B : Nat} {u : LN α} (hu : NewE ok cb B w u) (hB : ∀ b ∈ us.flatMap cb, b < B) (hg : g < B) :
    FillN ok cb ((w.setCell ⟨g, us.length * 2, none⟩ (.string u.n)).setCell ⟨g, us.length * 2 + 1, none⟩ (.slice u.a u.xs.length u.cap)) g n (us ++ [u]) := by
  obtain ⟨h0, ⟨cs, e, h1, h2⟩, h3, h4, h5⟩ := h
  have hfm : (us ++ [u]).flatMap cb = us.flatMap cb ++ cb u := by simp
  have hset : ∀ (i : Nat) (v : Value) (w1 : World) (c1 : Array Value), w1.heap[g]? = some (.cells c1 e (0, 0)) → (w1.setCell ⟨g, i, none⟩ v).heap[g]? = some (.cells (c1.setIfInBounds i v) e (0, 0)) := fun i v w1 c1 hh => by
    simp [World.setCell, Array.getElem?_modify, hh]
  have e1 := hset (us.length * 2) (.string u.n) w cs h1
  have e2 := hset (us.length * 2 + 1) (.slice u.a u.xs.length u.cap) _ _ e1
  have hfar : ∀ b, b ≠ g → ((w.setCell ⟨g, us.length * 2, none⟩ (.string u.n)).setCell ⟨g, us.length * 2 + 1, none⟩ (.slice u.a u.xs.length u.cap)).heap[b]? = w.heap[b]? := fun b hb => by
    rw [Below.heap_setCell _ _ _ _ hb, Below.heap_setCell _ _ _ _ hb]
  refine ⟨by simp; omega, ⟨_, e, e2, by simp [h2]⟩, fun i hi => ?_, ?_, ?_⟩
  · have hc : ∀ p, ((w.setCell ⟨g, us.length * 2, none⟩ (.string u.n)).setCell ⟨g, us.length * 2 + 1, none⟩ (.slice u.a u.xs.length u.cap)).cell? ⟨g, p, none⟩ = ((cs.setIfInBounds (us.length * 2) (.string u.n)).setIfInBounds (us.length * 2 + 1) (.slice u.a u.xs.length u.cap))[p]? := fun p => cell_of_row _ g p _ e _ e2
    have ho : ∀ p, w.cell? ⟨g, p, none⟩ = cs[p]? := fun p => cell_of_row _ g p _ e _ h1
    simp only [hc]
    by_cases hlt : i < us.length
    · obtain ⟨q0, q1, q2⟩ := h3 i hlt
      rw [ho] at q0 q1
      rw [List.getElem_append_left hlt]
      refine ⟨?_, ?_, hf _ _ _ q2 fun b hb => hfar b fun e => ?_⟩
      · rw [Array.getElem?_setIfInBounds_ne (by omega), Array.getElem?_setIfInBounds_ne (by omega)]; exact q0
      · rw [Array.getElem?_setIfInBounds_ne (by omega), Array.getElem?_setIfInBounds_ne (by omega)]; exact q1
      · have := (h5 b (List.mem_flatMap.2 ⟨_, List.getElem_mem hlt, hb⟩)).1
        omega
    · obtain rfl : i = us.length := by simp at hi; omega
      have eu : (us ++ [u])[us.length]'hi = u := by simp
      rw [eu, Nat.zero_add]
      refine ⟨?_, ?_, hf _ _ _ hu.1 fun b hb => hfar b fun e => ?_⟩
      · rw [Array.getElem?_setIfInBounds_ne (by omega), Array.getElem?_setIfInBounds_self_of_lt (by omega)]
      · rw [Array.getElem?_setIfInBounds_self_of_lt (by simp; omega)]
      · have := (hu.2.2 b hb).1
        omega
  · rw [hfm, List.nodup_append]
    refine ⟨h4, hu.2.1, fun a ha b hb => ?_⟩
    have h6 := hB a ha
    have h7 := (hu.2.2 b hb).1
    omega
  · intro b hb
    rw [hfm] at hb
    rcases List.mem_append.1 hb with hb | hb
    · exact ⟨(h5 b hb).1, (h5 b hb).2.same (hfar b (by have := (h5 b hb).1; omega))⟩
    · have := hu.2.2 b hb
      exact ⟨by omega, this.2.same (hfar b (by omega))⟩

theorem FillN.done {w : World} {g n cap B : Nat} {us : List (LN α)} (h : FillN ok cb w g n us) (hl : us.length ≤ cap) (hc : cap ≤ maxLen) (hB : B ≤ g) : NewSl ok cb B w (some ⟨g, 0, none⟩) cap us := by
  obtain ⟨h0, ⟨cs, e, h1, h2⟩, h3, h4, h5⟩ := h
  refine ⟨⟨hl, hc, .inr ⟨g, 0, rfl, h3⟩⟩, ?_, ?_⟩
  · show ((if us.isEmpty then [] else [g]) ++ us.flatMap cb).Nodup
    cases us with
    | nil => simp
    | cons u us =>
      simp only [List.isEmpty_cons, Bool.false_eq_true, if_false, List.singleton_append, List.nodup_cons]
      exact ⟨fun hm => by have := (h5 g hm).1; omega, h4⟩
  · intro b hb
    have hb' : b ∈ (if us.isEmpty then [] else [g]) ++ us.flatMap cb := hb
    rcases List.mem_append.1 hb' with hb | hb
    · cases us with
      | nil => simp at hb
      | cons u us =>
        simp at hb
        subst hb
        exact ⟨hB, cs, e, h1⟩
    · have := h5 b hb
      exact ⟨by omega, this.2⟩
end

end Go.Proofs.YtkpbiifikkbaeaaDoor.Con
