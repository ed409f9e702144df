/-
  Types as they lie in memory ('LT': a node with the address of its kids): what a struct of a number, a text and a slice of such structs reads as, that it stays while memory grows, and that an argument which can be read is one. No program in it, no condition.
-/
import Derived.Test.YtkpbiifikkbaeaaDoorBase
import Derived.Deep.Slices
import Derived.Deep.Strs
namespace Go.Proofs.YtkpbiifikkbaeaaDoor.Con
open Go.RowKit Go.ChangeShapes Go.WideShapes Go.ChangeAt Go.Deep

/-- A type as it lies in memory: number, name, and the slice of its kids. -/
inductive LT where
  | mk (k : Int) (n : ByteArray) (a : Option Addr) (cap : Nat) (ks : List LT)

instance : Inhabited LT := ⟨.mk 0 ⟨#[]⟩ none 0 []⟩
def LT.k : LT → Int | .mk k _ _ _ _ => k
def LT.n : LT → ByteArray | .mk _ n _ _ _ => n
def LT.a : LT → Option Addr | .mk _ _ a _ _ => a
def LT.cap : LT → Nat | .mk _ _ _ c _ => c
def LT.ks : LT → List LT | .mk _ _ _ _ ks => ks
/-- The struct as a value. -/
abbrev LT.val (t : LT) : Value := .agg #[.int .i64 t.k, .string t.n, .slice t.a t.ks.length t.cap]

theorem LT.ind {P : LT → Prop} (h : ∀ k n a c ks, (∀ t ∈ ks, P t) → P (.mk k n a c ks)) : ∀ t, P t := fun t =>
  LT.rec (motive_1 := P) (motive_2 := fun ks => ∀ t ∈ ks, P t) (fun k n a c ks ih => h k n a c ks ih) (fun _ h => by cases h)
    (fun t ts ht hts u hu => by
      rcases List.mem_cons.1 hu with rfl | hu
      · exact ht
      · exact hts u hu) t

mutual
/-- The kids of a type lie in memory, and theirs. -/
def LT.Ok (w : World) : LT → Prop
  | .mk k n a cap ks => n.size ≤ maxLen ∧ -9223372036854775808 ≤ k ∧ k ≤ 9223372036854775807 ∧ ks.length ≤ cap ∧ cap ≤ maxLen ∧ (ks = [] ∨ ∃ b o, a = some ⟨b, o, none⟩ ∧ rowOk w ks b o)
/-- A row of types lies in memory. -/
def rowOk (w : World) : List LT → Nat → Nat → Prop
  | [], _, _ => True
  | t :: ts, b, o => w.cell? ⟨b, o, none⟩ = some (.int .i64 t.k) ∧ w.cell? ⟨b, o + 1, none⟩ = some (.string t.n) ∧ w.cell? ⟨b, o + 2, none⟩ = some (.slice t.a t.ks.length t.cap) ∧ t.Ok w ∧ rowOk w ts b (o + 3)
end

/-- The slice of a row: nothing is asked of an empty one. -/
def slOk (w : World) (a : Option Addr) (cap : Nat) (ks : List LT) : Prop := ks.length ≤ cap ∧ cap ≤ maxLen ∧ (ks = [] ∨ ∃ b o, a = some ⟨b, o, none⟩ ∧ rowOk w ks b o)

theorem LT.Ok.kids {w : World} {t : LT} (h : t.Ok w) : slOk w t.a t.cap t.ks := by
  obtain ⟨k, n, a, cap, ks⟩ := t
  unfold LT.Ok at h
  exact ⟨h.2.2.2.1, h.2.2.2.2.1, h.2.2.2.2.2⟩

theorem LT.Ok.nm {w : World} {t : LT} (h : t.Ok w) : t.n.size ≤ maxLen := by
  obtain ⟨k, n, a, cap, ks⟩ := t
  unfold LT.Ok at h
  exact h.1

theorem LT.Ok.num {w : World} {t : LT} (h : t.Ok w) : -9223372036854775808 ≤ t.k ∧ t.k ≤ 9223372036854775807 := by
  obtain ⟨k, n, a, cap, ks⟩ := t
  unfold LT.Ok at h
  exact ⟨h.2.1, h.2.2.1⟩

theorem LT.ok_mk {w : World} {t : LT} (h1 : t.n.size ≤ maxLen) (h2 : -9223372036854775808 ≤ t.k) (h3 : t.k ≤ 9223372036854775807) (h4 : slOk w t.a t.cap t.ks) : t.Ok w := by
  obtain ⟨k, n, a, cap, ks⟩ := t
  unfold LT.Ok
  exact ⟨h1, h2, h3, h4.1, h4.2.1, h4.2.2⟩

theorem rowOk_get3 {w : World} : ∀ {ks : List LT} {b o : Nat}, rowOk w ks b o → ∀ i (hi : i < ks.length),
    w.cell? ⟨b, o + 3 * i, none⟩ = some (.int .i64 ks[i].k) ∧ w.cell? ⟨b, o + 3 * i + 1, none⟩ = some (.string ks[i].n) ∧ w.cell? ⟨b, o + 3 * i + 2, none⟩ = some (.slice ks[i].a ks[i].ks.length ks[i].cap) ∧ ks[i].Ok w
  | [], _, _, _, i, hi => by simp at hi
  | t :: ts, b, o, h, 0, _ => by
    unfold rowOk at h
    exact ⟨h.1, h.2.1, h.2.2.1, h.2.2.2.1⟩
  | t :: ts, b, o, h, i + 1, hi => by
    unfold rowOk at h
    have := rowOk_get3 h.2.2.2.2 i (by simpa using hi)
    simpa [show o + 3 * (i + 1) = o + 3 + 3 * i from by omega] using this

theorem rowOk_get {w : World} {ks : List LT} {b o : Nat} (h : rowOk w ks b o) (i : Nat) (hi : i < ks.length) :
    w.cell? ⟨b, o + i * 3, none⟩ = some (.int .i64 ks[i].k) ∧ w.cell? ⟨b, o + i * 3 + 1, none⟩ = some (.string ks[i].n) ∧ w.cell? ⟨b, o + i * 3 + 2, none⟩ = some (.slice ks[i].a ks[i].ks.length ks[i].cap) ∧ ks[i].Ok w := by
  rw [Nat.mul_comm]; exact rowOk_get3 h i hi

theorem rowOk_mk {w : World} : ∀ {ks : List LT} {b o : Nat}, (∀ i (hi : i < ks.length),
    w.cell? ⟨b, o + 3 * i, none⟩ = some (.int .i64 ks[i].k) ∧ w.cell? ⟨b, o + 3 * i + 1, none⟩ = some (.string ks[i].n) ∧ w.cell? ⟨b, o + 3 * i + 2, none⟩ = some (.slice ks[i].a ks[i].ks.length ks[i].cap) ∧ ks[i].Ok w) → rowOk w ks b o
  | [], _, _, _ => by unfold rowOk; trivial
  | t :: ts, b, o, h => by
    have h0 := h 0 (by simp)
    unfold rowOk
    refine ⟨h0.1, h0.2.1, h0.2.2.1, h0.2.2.2, rowOk_mk fun i hi => ?_⟩
    have := h (i + 1) (by simpa using hi)
    simpa [show o + 3 * (i + 1) = o + 3 + 3 * i from by omega] using this

theorem cell_lt {w : World} {a : Addr} {v : Value} (h : w.cell? a = some v) : a.block < w.heap.size := by
  rcases Nat.lt_or_ge a.block w.heap.size with h' | h'
  · exact h'
  · rw [World.cell?] at h
    simp [Array.getElem?_eq_none h'] at h

theorem LT.Ok.grow {w w' : World} (g : Below w.heap.size w w') : ∀ {t : LT}, t.Ok w → t.Ok w' := fun {t} => by
  refine LT.ind (P := fun t => t.Ok w → t.Ok w') (fun k n a c ks ih h => ?_) t
  refine LT.ok_mk h.nm h.num.1 h.num.2 ⟨h.kids.1, h.kids.2.1, ?_⟩
  rcases h.kids.2.2 with e | ⟨b, o, e, hr⟩
  · exact .inl e
  · refine .inr ⟨b, o, e, rowOk_mk fun i hi => ?_⟩
    obtain ⟨h0, h1, h2, h3⟩ := rowOk_get3 hr i hi
    exact ⟨(g.cell (p := ⟨_, _, _⟩) (cell_lt h0)).trans h0, (g.cell (p := ⟨_, _, _⟩) (cell_lt h1)).trans h1, (g.cell (p := ⟨_, _, _⟩) (cell_lt h2)).trans h2, ih _ (List.getElem_mem hi) h3⟩

theorem rowOk.grow {w w' : World} (g : Below w.heap.size w w') {ks : List LT} {b o : Nat} (hr : rowOk w ks b o) : rowOk w' ks b o := rowOk_mk fun i hi => by
  obtain ⟨h0, h1, h2, h3⟩ := rowOk_get3 hr i hi
  exact ⟨(g.cell (p := ⟨_, _, _⟩) (cell_lt h0)).trans h0, (g.cell (p := ⟨_, _, _⟩) (cell_lt h1)).trans h1, (g.cell (p := ⟨_, _, _⟩) (cell_lt h2)).trans h2, h3.grow g⟩

theorem slOk.grow {w w' : World} (g : Below w.heap.size w w') {a : Option Addr} {cap : Nat} {ks : List LT} (h : slOk w a cap ks) : slOk w' a cap ks :=
  ⟨h.1, h.2.1, h.2.2.imp id fun ⟨b, o, e, hr⟩ => ⟨b, o, e, hr.grow g⟩⟩

/-- What the laws count of a type: the bytes of its names and its kids. -/
def LT.sz : LT → Nat
  | .mk _ n _ _ ks => n.size + szl ks
where szl : List LT → Nat
  | [] => 0
  | t :: ts => 1 + t.sz + szl ts

theorem LT.sz_eq (t : LT) : t.sz = t.n.size + LT.sz.szl t.ks := by
  obtain ⟨k, n, a, c, ks⟩ := t
  rw [LT.sz]; rfl

theorem szl_take (ks : List LT) (i : Nat) (hi : i < ks.length) : LT.sz.szl (ks.take (i + 1)) = LT.sz.szl (ks.take i) + 1 + ks[i].sz := by
  induction ks generalizing i with
  | nil => simp at hi
  | cons t ts ih =>
    cases i with
    | zero => simp [LT.sz.szl]
    | succ i => simp only [List.take_succ_cons, LT.sz.szl, List.getElem_cons_succ]; have := ih i (by simpa using hi); omega

theorem szl_take_le (ks : List LT) (i : Nat) : LT.sz.szl (ks.take i) ≤ LT.sz.szl ks := by
  induction ks generalizing i with
  | nil => simp
  | cons t ts ih =>
    cases i with
    | zero => simp [LT.sz.szl]
    | succ i => simp only [List.take_succ_cons, LT.sz.szl]; have := ih i; omega

theorem szl_ge (ks : List LT) : ks.length ≤ LT.sz.szl ks := by
  induction ks with
  | nil => simp [LT.sz.szl]
  | cons t ts ih => simp only [List.length_cons, LT.sz.szl]; omega

theorem sz_mem {ks : List LT} {t : LT} (h : t ∈ ks) : 1 + t.sz ≤ LT.sz.szl ks := by
  induction ks with
  | nil => cases h
  | cons u us ih =>
    simp only [LT.sz.szl]
    rcases List.mem_cons.1 h with rfl | h
    · omega
    · have := ih h; omega

/-- An argument that can be read is such a type. -/
theorem lt_of_trod {H : Type} {enc : TypeId × Value → H} {P : Program} {W : World} {t ks kn kk : TypeId} {f0 f1 f2 : Field}
    (ht : P.underlying t = some (.struct #[f0, f1, f2])) (h0 : f0.type = kk) (h1 : f1.type = kn) (h2 : f2.type = ks) (o0 : f0.offset = 0) (o1 : f1.offset = 1) (o2 : f2.offset = 2)
    (uk : P.underlying kk = some (.int .i64)) (un : P.underlying kn = some .string) (us : P.underlying ks = some (.slice t)) (ck : P.cellsOf kk = 1) (cn : P.cellsOf kn = 1) (cs : P.cellsOf ks = 1) (ct : P.cellsOf t = 3) :
    ∀ (fuel : Nat) (vs : List Value) (x : DataW H × List MemPlace), DataW.trod enc P W 0 (fun _ => true) true fuel t vs = some x → ∃ u : LT, vs = [.int .i64 u.k, .string u.n, .slice u.a u.ks.length u.cap] ∧ u.Ok W := by
  intro fuel
  induction fuel using Nat.strongRecOn with
  | _ fuel ih =>
  intro vs x h
  obtain ⟨xs, m, hm, hx, hl, hlen, hf⟩ := DataW.trod_struct ht h
  match xs, hlen with
  | [y0, y1, y2], _ =>
  have g0 := hf 0 f0 rfl
  have g1 := hf 1 f1 rfl
  have g2 := hf 2 f2 rfl
  rw [h0, o0, ck] at g0
  rw [h1, o1, cn] at g1
  rw [h2, o2, cs] at g2
  rw [ct] at hl
  match vs, hl with
  | [v0, v1, v2], _ =>
  simp only [List.drop_zero, List.take_succ_cons, List.take_zero, List.drop_succ_cons, List.getElem?_cons_zero, List.getElem?_cons_succ] at g0 g1 g2
  obtain ⟨k, e0, _, wk⟩ := DataW.trod_int uk g0
  obtain ⟨n, e1, _, wn⟩ := DataW.trod_string un g1
  obtain rfl : v0 = .int .i64 k := by simpa using e0
  obtain rfl : v1 = .string n := by simpa using e1
  have hb : -9223372036854775808 ≤ k ∧ k ≤ 9223372036854775807 := by simpa [Lit.wf, IntKind.min, IntKind.max, IntKind.signed, IntKind.bits] using wk
  rcases DataW.trod_slice us g2 with ⟨e2, _⟩ | ⟨a, len, cap, elems, rest, m', hm', e2, _, _, hlc, hcap, hlen, hel, _, _⟩
  · obtain rfl : v2 = .slice none 0 0 := by simpa using e2
    exact ⟨.mk k n none 0 [], rfl, LT.ok_mk wn hb.1 hb.2 ⟨Nat.le_refl _, Nat.zero_le _, .inl rfl⟩⟩
  · obtain rfl : v2 = .slice (some a) len cap := by simpa using e2
    have hall : ∀ i, i < len → ∃ u : LT, W.cells? 0 (a.add (i * 3)) 3 = some [.int .i64 u.k, .string u.n, .slice u.a u.ks.length u.cap] ∧ u.Ok W := fun i hi => by
      have h1 := hel i hi
      rw [ct, List.getElem?_eq_getElem (by omega)] at h1
      obtain ⟨cs', h2, h3⟩ := Option.bind_eq_some_iff.1 h1
      obtain ⟨u, rfl, hu⟩ := ih m' (by omega) cs' _ h3
      exact ⟨u, h2, hu⟩
    obtain ⟨f, hf⟩ := choose_lt hall
    have hcells : ∀ i, i < len → ∀ j (v : Value), [Value.int .i64 (f i).k, .string (f i).n, .slice (f i).a (f i).ks.length (f i).cap][j]? = some v → W.cell? (a.add (i * 3 + j)) = some v := fun i hi j v hv => by
      obtain ⟨_, _, h5⟩ := World.cells?_some (hf i hi).1
      have hj : j < 3 := by
        have := (List.getElem?_eq_some_iff.1 hv).1
        simpa using this
      have := h5 j hj
      rw [add_add] at this
      rw [this, hv]
    refine ⟨.mk k n (some a) cap ((List.range len).map f), by simp [LT.k, LT.n, LT.a, LT.ks, LT.cap], LT.ok_mk wn hb.1 hb.2 ⟨by simpa [LT.ks, LT.cap] using hlc, hcap, ?_⟩⟩
    by_cases h0 : len = 0
    · subst h0; exact .inl rfl
    · obtain ⟨b, o, sp⟩ := a
      have hs : sp = none := by
        have := hcells 0 (by omega) 0 _ rfl
        cases sp with
        | none => rfl
        | some s => simp [World.cell?, Addr.add] at this; split at this <;> simp at this
      subst hs
      refine .inr ⟨b, o, rfl, rowOk_mk fun i hi => ?_⟩
      have hi' : i < len := by simpa [LT.ks] using hi
      have e : ((LT.mk k n (some ⟨b, o, none⟩) cap ((List.range len).map f)).ks[i]'hi) = f i := by simp [LT.ks]
      rw [e]
      have q0 := hcells i hi' 0 _ rfl
      have q1 := hcells i hi' 1 _ rfl
      have q2 := hcells i hi' 2 _ rfl
      have ha : ∀ j, (Addr.mk b o none).add j = ⟨b, o + j, none⟩ := fun j => by unfold Addr.add; split <;> simp_all
      rw [ha] at q0 q1 q2
      rw [show o + 3 * i = o + (i * 3 + 0) from by omega, show o + (i * 3 + 0) + 1 = o + (i * 3 + 1) from by omega, show o + (i * 3 + 0) + 2 = o + (i * 3 + 2) from by omega]
      exact ⟨q0, q1, q2, (hf i hi').2⟩

end Go.Proofs.YtkpbiifikkbaeaaDoor.Con
