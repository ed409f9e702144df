/-
  Types that lie in new memory ('LT.New'): which blocks they lie in, that a store elsewhere leaves them, that a round which fills one row place by place keeps what it has. No program in it, no condition.
-/
import Derived.Test.YtkpbiifikkbaeaaDoorTy
namespace Go.Proofs.YtkpbiifikkbaeaaDoor.Con
open Go.RowKit

/-- A type without addresses. -/
inductive Ty where
  | mk (k : Int) (n : ByteArray) (ks : List Ty)

def LT.ty : LT → Ty
  | .mk k n _ _ ks => .mk k n (tys ks)
where tys : List LT → List Ty
  | [] => []
  | t :: ts => t.ty :: tys ts

theorem tys_eq (ks : List LT) : LT.ty.tys ks = ks.map LT.ty := by
  induction ks with
  | nil => rfl
  | cons t ts ih => simp [LT.ty.tys, ih]

theorem LT.ty_eq (t : LT) : t.ty = .mk t.k t.n (t.ks.map LT.ty) := by
  obtain ⟨k, n, a, c, ks⟩ := t
  rw [LT.ty, tys_eq]; rfl

/-- The blocks in which the kids of a type lie. -/
def LT.bl : LT → List Nat
  | .mk _ _ a _ ks => (if ks.isEmpty then [] else match a with | some x => [x.block] | none => []) ++ bls ks
where bls : List LT → List Nat
  | [] => []
  | t :: ts => t.bl ++ bls ts

abbrev bls (ks : List LT) : List Nat := LT.bl.bls ks

theorem bls_eq (ks : List LT) : bls ks = ks.flatMap LT.bl := by
  induction ks with
  | nil => rfl
  | cons t ts ih => simp only [bls, LT.bl.bls, List.flatMap_cons] at ih ⊢; rw [ih]

theorem LT.bl_eq (t : LT) : t.bl = (if t.ks.isEmpty then [] else match t.a with | some x => [x.block] | none => []) ++ bls t.ks := by
  obtain ⟨k, n, a, c, ks⟩ := t
  rw [LT.bl.eq_def]; rfl

theorem bl_sub {ks : List LT} {t : LT} (h : t ∈ ks) : ∀ b ∈ t.bl, b ∈ bls ks := fun b hb => by
  rw [bls_eq]; exact List.mem_flatMap.2 ⟨t, h, hb⟩

theorem bls_append (xs ys : List LT) : bls (xs ++ ys) = bls xs ++ bls ys := by simp [bls_eq]

/-- What is not written stays. -/
theorem LT.Ok.frame {w w' : World} : ∀ {t : LT}, t.Ok w → (∀ b ∈ t.bl, w'.heap[b]? = w.heap[b]?) → t.Ok w' := fun {t} => by
  refine LT.ind (P := fun t => t.Ok w → (∀ b ∈ t.bl, w'.heap[b]? = w.heap[b]?) → t.Ok w') (fun k n a c ks ih h hb => ?_) t
  refine LT.ok_mk h.nm h.num.1 h.num.2 ⟨h.kids.1, h.kids.2.1, ?_⟩
  rcases h.kids.2.2 with e | ⟨b, o, e, hr⟩
  · exact .inl e
  · by_cases hk : ks = []
    · exact .inl hk
    refine .inr ⟨b, o, e, rowOk_mk fun i hi => ?_⟩
    obtain ⟨h0, h1, h2, h3⟩ := rowOk_get3 hr i hi
    have e' : a = some ⟨b, o, none⟩ := e
    have hbb : w'.heap[b]? = w.heap[b]? := hb b (by rw [LT.bl_eq]; simp [LT.ks, LT.a, e', hk])
    have hc : ∀ p, w'.cell? ⟨b, p, none⟩ = w.cell? ⟨b, p, none⟩ := fun p => World.cell?_of_block (w := w) (w' := w') (a := ⟨b, p, none⟩) hbb
    refine ⟨(hc _).trans h0, (hc _).trans h1, (hc _).trans h2, ih _ (List.getElem_mem hi) h3 fun x hx => hb x ?_⟩
    rw [LT.bl_eq]
    exact List.mem_append_right _ (bl_sub (List.getElem_mem hi) x hx)

theorem LT.Ok.drew {w : World} {t : LT} (h : t.Ok w) : t.Ok w.drew := h.frame fun _ _ => rfl

/-- A block of cells that may be written. -/
def Free (w : World) (b : Nat) : Prop := ∃ cs e, w.heap[b]? = some (.cells cs e (0, 0))

theorem Free.lt {w : World} {b : Nat} (h : Free w b) : b < w.heap.size := by
  obtain ⟨cs, e, h⟩ := h
  exact (Array.getElem?_eq_some_iff.1 h).1

theorem Free.same {w w' : World} {b : Nat} (h : Free w b) (e : w'.heap[b]? = w.heap[b]?) : Free w' b := by
  obtain ⟨cs, t, h⟩ := h
  exact ⟨cs, t, e.trans h⟩

theorem Free.grow {w w' : World} {b : Nat} (h : Free w b) (g : Below w.heap.size w w') : Free w' b := h.same (g.block b h.lt)

theorem Free.set {w : World} {b : Nat} (h : Free w b) (p : Addr) (v : Value) : Free (w.setCell p v) b := by
  obtain ⟨cs, t, h⟩ := h
  by_cases hb : b = p.block
  · subst hb
    exact ⟨_, t, by simp [World.setCell, Array.getElem?_modify, h]; rfl⟩
  · exact ⟨cs, t, (Below.heap_setCell w p v b hb).trans h⟩

theorem Free.frozen {w : World} {b : Nat} (h : Free w b) (o : Nat) : w.frozen? ⟨b, o, none⟩ = false := by
  obtain ⟨cs, t, h⟩ := h
  simp [World.frozen?, h]

/-- The type lies in blocks of its own, from block B on. -/
def LT.New (B : Nat) (w : World) (t : LT) : Prop := t.Ok w ∧ t.bl.Nodup ∧ ∀ b ∈ t.bl, B ≤ b ∧ Free w b

theorem LT.New.grow {B : Nat} {w w' : World} {t : LT} (h : t.New B w) (g : Below w.heap.size w w') : t.New B w' :=
  ⟨h.1.grow g, h.2.1, fun b hb => ⟨(h.2.2 b hb).1, (h.2.2 b hb).2.grow g⟩⟩

theorem LT.New.far {B : Nat} {w : World} {t : LT} (h : t.New B w) (p : Addr) (hp : p.block ∉ t.bl) (v : Value) : t.New B (w.setCell p v) :=
  ⟨h.1.frame fun b hb => Below.heap_setCell w p v b (fun e => hp (e ▸ hb)), h.2.1, fun b hb => ⟨(h.2.2 b hb).1, (h.2.2 b hb).2.set _ _⟩⟩

theorem LT.New.mono {B B' : Nat} {w : World} {t : LT} (h : t.New B w) (hB : B' ≤ B) : t.New B' w := ⟨h.1, h.2.1, fun b hb => ⟨Nat.le_trans hB (h.2.2 b hb).1, (h.2.2 b hb).2⟩⟩

/-- A slice of types in blocks of its own. -/
def slNew (B : Nat) (w : World) (a : Option Addr) (cap : Nat) (ks : List LT) : Prop := LT.New B w (.mk 0 ⟨#[]⟩ a cap ks)

theorem slNew.ok {B : Nat} {w : World} {a : Option Addr} {cap : Nat} {ks : List LT} (h : slNew B w a cap ks) : slOk w a cap ks := h.1.kids

theorem slNew.mk {B : Nat} {w : World} {a : Option Addr} {cap : Nat} {ks : List LT} (h : slNew B w a cap ks) {k : Int} {n : ByteArray} (h1 : n.size ≤ maxLen) (h2 : -9223372036854775808 ≤ k) (h3 : k ≤ 9223372036854775807) : LT.New B w (.mk k n a cap ks) :=
  ⟨LT.ok_mk h1 h2 h3 h.ok, h.2.1, h.2.2⟩

theorem LT.New.kids {B : Nat} {w : World} {t : LT} (h : t.New B w) : slNew B w t.a t.cap t.ks := by
  obtain ⟨k, n, a, c, ks⟩ := t
  exact ⟨LT.ok_mk (Nat.zero_le _) (by simp [LT.k]) (by simp [LT.k]) h.1.kids, h.2.1, h.2.2⟩

/-- Block g is being filled: its first us.length places hold us, in blocks of their own behind g; there is room for n places. -/
def Fill (w : World) (g n : Nat) (us : List LT) : Prop :=
  us.length ≤ n ∧ (∃ cs e, w.heap[g]? = some (.cells cs e (0, 0)) ∧ cs.size = 3 * n) ∧ rowOk w us g 0 ∧ (bls us).Nodup ∧ ∀ b ∈ bls us, g < b ∧ Free w b

theorem Fill.start (w : World) (g n : Nat) (h : ∃ cs e, w.heap[g]? = some (.cells cs e (0, 0)) ∧ cs.size = 3 * n) : Fill w g n [] :=
  ⟨Nat.zero_le _, h, by unfold rowOk; trivial, List.nodup_nil, fun _ h => by cases h⟩

theorem Fill.grow {w w' : World} {g n : Nat} {us : List LT} (h : Fill w g n us) (gr : Below w.heap.size w w') : Fill w' g n us := by
  obtain ⟨h0, ⟨cs, e, h1, h2⟩, h3, h4, h5⟩ := h
  exact ⟨h0, ⟨cs, e, (gr.block g (Array.getElem?_eq_some_iff.1 h1).1).trans h1, h2⟩, h3.grow gr, h4, fun b hb => ⟨(h5 b hb).1, (h5 b hb).2.grow gr⟩⟩

theorem Fill.room {w : World} {g n : Nat} {us : List LT} (h : Fill w g n us) (j : Nat) (hj : j < 3 * n) : ∃ v, w.cell? ⟨g, j, none⟩ = some v := by
  obtain ⟨_, ⟨cs, e, h1, h2⟩, _⟩ := h
  exact ⟨cs[j]'(by omega), by rw [cell_of_row w g j cs e _ h1, Array.getElem?_eq_getElem]⟩

theorem Fill.free {w : World} {g n : Nat} {us : List LT} (h : Fill w g n us) (j : Nat) : w.frozen? ⟨g, j, none⟩ = false := by
  obtain ⟨_, ⟨cs, e, h1, h2⟩, _⟩ := h
  simp [World.frozen?, h1]

/-- One place more: the three stores of a struct. -/
theorem Fill.put {w : World} {g n : Nat} {us : List LT} (h : Fill w g n us) (hn : us.length < n) {B : Nat} {u : LT} (hu : u.New B w) (hB : ∀ b ∈ bls us, b < B) (hg : g < B) :
    Fill (((w.setCell ⟨g, us.length * 3, none⟩ (.int .i64 u.k)).setCell ⟨g, us.length * 3 + 1, none⟩ (.string u.n)).setCell ⟨g, us.length * 3 + 2, none⟩ (.slice u.a u.ks.length u.cap)) g n (us ++ [u]) := by
  obtain ⟨h0, ⟨cs, e, h1, h2⟩, h3, h4, h5⟩ := h
  have hgb : ∀ b ∈ bls (us ++ [u]), g < b := fun b hb => by
    rw [bls_append] at hb
    rcases List.mem_append.1 hb with hb | hb
    · exact (h5 b hb).1
    · have := (hu.2.2 b (by simpa [bls, LT.bl.bls] using hb)).1; omega
  have hset : ∀ (i : Nat) (v : Value) (w1 : World) (c1 : Array Value), w1.heap[g]? = some (.cells c1 e (0, 0)) → (w1.setCell ⟨g, i, none⟩ v).heap[g]? = some (.cells (c1.setIfInBounds i v) e (0, 0)) := fun i v w1 c1 hh => by
    simp [World.setCell, Array.getElem?_modify, hh]
  have e1 := hset (us.length * 3) (.int .i64 u.k) w cs h1
  have e2 := hset (us.length * 3 + 1) (.string u.n) _ _ e1
  have e3 := hset (us.length * 3 + 2) (.slice u.a u.ks.length u.cap) _ _ e2
  have hfar : ∀ b, b ≠ g → (((w.setCell ⟨g, us.length * 3, none⟩ (.int .i64 u.k)).setCell ⟨g, us.length * 3 + 1, none⟩ (.string u.n)).setCell ⟨g, us.length * 3 + 2, none⟩ (.slice u.a u.ks.length u.cap)).heap[b]? = w.heap[b]? := fun b hb => by
    rw [Below.heap_setCell _ _ _ _ hb, Below.heap_setCell _ _ _ _ hb, Below.heap_setCell _ _ _ _ hb]
  refine ⟨by simp; omega, ⟨_, e, e3, by simp [h2]⟩, rowOk_mk fun i hi => ?_, ?_, ?_⟩
  · have hc : ∀ p, (((w.setCell ⟨g, us.length * 3, none⟩ (.int .i64 u.k)).setCell ⟨g, us.length * 3 + 1, none⟩ (.string u.n)).setCell ⟨g, us.length * 3 + 2, none⟩ (.slice u.a u.ks.length u.cap)).cell? ⟨g, p, none⟩ = (((cs.setIfInBounds (us.length * 3) (.int .i64 u.k)).setIfInBounds (us.length * 3 + 1) (.string u.n)).setIfInBounds (us.length * 3 + 2) (.slice u.a u.ks.length u.cap))[p]? := fun p => cell_of_row _ g p _ e _ e3
    have ho : ∀ p, w.cell? ⟨g, p, none⟩ = cs[p]? := fun p => cell_of_row _ g p _ e _ h1
    simp only [hc]
    by_cases hlt : i < us.length
    · obtain ⟨q0, q1, q2, q3⟩ := rowOk_get3 h3 i hlt
      rw [ho] at q0 q1 q2
      rw [List.getElem_append_left hlt]
      refine ⟨?_, ?_, ?_, q3.frame fun b hb => hfar b fun e => ?_⟩
      · rw [Array.getElem?_setIfInBounds_ne (by omega), Array.getElem?_setIfInBounds_ne (by omega), Array.getElem?_setIfInBounds_ne (by omega)]; exact q0
      · rw [Array.getElem?_setIfInBounds_ne (by omega), Array.getElem?_setIfInBounds_ne (by omega), Array.getElem?_setIfInBounds_ne (by omega)]; exact q1
      · rw [Array.getElem?_setIfInBounds_ne (by omega), Array.getElem?_setIfInBounds_ne (by omega), Array.getElem?_setIfInBounds_ne (by omega)]; exact q2
      · have := (h5 b (bl_sub (List.getElem_mem hlt) b hb)).1
        omega
    · obtain rfl : i = us.length := by simp at hi; omega
      have eu : (us ++ [u])[us.length]'hi = u := by simp
      rw [eu]
      have p0 : 0 + 3 * us.length = us.length * 3 := by omega
      rw [p0]
      refine ⟨?_, ?_, ?_, hu.1.frame fun b hb => hfar b fun e => ?_⟩
      · rw [Array.getElem?_setIfInBounds_ne (by omega), Array.getElem?_setIfInBounds_ne (by omega), Array.getElem?_setIfInBounds_self_of_lt (by omega)]
      · rw [Array.getElem?_setIfInBounds_ne (by omega), Array.getElem?_setIfInBounds_self_of_lt (by simp; omega)]
      · rw [Array.getElem?_setIfInBounds_self_of_lt (by simp; omega)]
      · have := (hu.2.2 b hb).1
        omega
  · rw [bls_append, List.nodup_append]
    refine ⟨h4, by simpa [bls, LT.bl.bls] using hu.2.1, fun a ha b hb => ?_⟩
    have h6 := hB a ha
    have h7 := (hu.2.2 b (by simpa [bls, LT.bl.bls] using hb)).1
    omega
  · intro b hb
    refine ⟨hgb b hb, ?_⟩
    rw [bls_append] at hb
    rcases List.mem_append.1 hb with hb | hb
    · exact (h5 b hb).2.same (hfar b (by have := (h5 b hb).1; omega))
    · have := hu.2.2 b (by simpa [bls, LT.bl.bls] using hb)
      exact this.2.same (hfar b (by omega))

theorem Fill.done {w : World} {g n cap B : Nat} {us : List LT} (h : Fill w g n us) (hl : us.length ≤ cap) (hc : cap ≤ maxLen) (hB : B ≤ g) : slNew B w (some ⟨g, 0, none⟩) cap us := by
  obtain ⟨h0, ⟨cs, e, h1, h2⟩, h3, h4, h5⟩ := h
  refine ⟨LT.ok_mk (Nat.zero_le _) (by simp [LT.k]) (by simp [LT.k]) ⟨hl, hc, .inr ⟨g, 0, rfl, h3⟩⟩, ?_, ?_⟩
  · rw [LT.bl_eq]
    show ((if us.isEmpty then [] else [g]) ++ bls us).Nodup
    cases us with
    | nil => simp [bls, LT.bl.bls]
    | cons u us =>
      simp only [List.isEmpty_cons, Bool.false_eq_true, if_false, List.singleton_append, List.nodup_cons]
      exact ⟨fun hm => by have := (h5 g hm).1; omega, h4⟩
  · intro b hb
    rw [LT.bl_eq] at hb
    have hb' : b ∈ (if us.isEmpty then [] else [g]) ++ bls us := hb
    rcases List.mem_append.1 hb' with hb | hb
    · cases us with
      | nil => simp at hb
      | cons u us =>
        simp at hb
        subst hb
        exact ⟨hB, cs, e, h1⟩
    · have := h5 b hb
      exact ⟨by omega, this.2⟩

end Go.Proofs.YtkpbiifikkbaeaaDoor.Con
