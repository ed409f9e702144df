/-
  What the map of SameType holds: pairs of places, each with equal types or still in comparison. Aids without a walk.
-/
import Derived.Test.YtdlbhjkkgiaidaaTySm
namespace Go.Proofs.Ytdlbhjkkgiaidaa.Con
open Go.RowKit
set_option linter.unusedVariables false

/-- At (b, o) lies the type x, in blocks of cells. -/
def At (w : World) (b o : Nat) (x : LT) : Prop := w.cell? ⟨b, o, none⟩ = some (.int .i64 x.k) ∧ w.cell? ⟨b, o + 1, none⟩ = some (.string x.n) ∧ w.cell? ⟨b, o + 2, none⟩ = some (.slice x.a x.ks.length x.cap) ∧ x.Ok w ∧ Free w b ∧ ∀ c ∈ x.bl, Free w c

theorem LT.ext {x y : LT} (h1 : x.k = y.k) (h2 : x.n = y.n) (h3 : x.a = y.a) (h4 : x.cap = y.cap) (h5 : x.ks = y.ks) : x = y := by
  obtain ⟨k, n, a, c, ks⟩ := x
  obtain ⟨k', n', a', c', ks'⟩ := y
  obtain rfl : k = k' := h1
  obtain rfl : n = n' := h2
  obtain rfl : a = a' := h3
  obtain rfl : c = c' := h4
  obtain rfl : ks = ks' := h5
  rfl

theorem uniq (w : World) (x : LT) : ∀ y : LT, x.k = y.k → x.n = y.n → x.a = y.a → x.ks.length = y.ks.length → x.cap = y.cap → x.Ok w → y.Ok w → x = y := by
  refine LT.ind (P := fun x => ∀ y : LT, x.k = y.k → x.n = y.n → x.a = y.a → x.ks.length = y.ks.length → x.cap = y.cap → x.Ok w → y.Ok w → x = y) (fun k n a c ks ih y h1 h2 h3 h4 h5 hx hy => ?_) x
  refine LT.ext h1 h2 h3 h5 ?_
  have e1 := hx.kids.2.2
  have e2 := hy.kids.2.2
  replace h4 : ks.length = y.ks.length := h4
  replace h3 : a = y.a := h3
  show ks = y.ks
  refine List.ext_getElem h4 fun i hi hi' => ?_
  obtain ⟨b, o, ha, hr⟩ := e1.resolve_left (fun e => by replace e : ks = [] := e; rw [e] at hi; simp at hi)
  obtain ⟨b', o', ha', hr'⟩ := e2.resolve_left (fun e => by rw [e] at hi'; simp at hi')
  replace ha : a = some ⟨b, o, none⟩ := ha
  rw [ha, ha'] at h3
  injection h3 with h3
  injection h3 with e3 e4
  subst e3 e4
  obtain ⟨c0, c1, c2, ho⟩ := rowOk_get hr i hi
  obtain ⟨d0, d1, d2, ho'⟩ := rowOk_get hr' i hi'
  have f0 := c0.symm.trans d0
  have f1 := c1.symm.trans d1
  have f2 := c2.symm.trans d2
  simp only [Option.some.injEq, Value.int.injEq, Value.string.injEq, Value.slice.injEq, true_and] at f0 f1 f2
  exact ih ks[i] (List.getElem_mem hi) y.ks[i] f0 f1 f2.1 f2.2.1 f2.2.2 ho ho'

theorem At.uniq {w : World} {b o : Nat} {x y : LT} (h : At w b o x) (h' : At w b o y) : x = y := by
  have f0 := h.1.symm.trans h'.1
  have f1 := h.2.1.symm.trans h'.2.1
  have f2 := h.2.2.1.symm.trans h'.2.2.1
  simp only [Option.some.injEq, Value.int.injEq, Value.string.injEq, Value.slice.injEq, true_and] at f0 f1 f2
  exact Con.uniq w x y f0 f1 f2.1 f2.2.1 f2.2.2 h.2.2.2.1 h'.2.2.2.1

theorem free_keep {w w' : World} {M : Nat} {es : Array MapEntry} {cl : Nat} (hm : w.heap[M]? = some (.map es cl)) (hc : Chg w w' (fun x => x = M)) {c : Nat} (h : Free w c) : w'.heap[c]? = w.heap[c]? :=
  hc.2.2.2.2 c h.lt (fun e => by subst e; obtain ⟨cs, t, h⟩ := h; rw [hm] at h; cases h)

theorem At.keep {w w' : World} {b o : Nat} {x : LT} (h : At w b o x) (hk : ∀ c, Free w c → w'.heap[c]? = w.heap[c]?) : At w' b o x := by
  have e : ∀ i, w'.cell? ⟨b, i, none⟩ = w.cell? ⟨b, i, none⟩ := fun i => World.cell?_of_block (a := ⟨b, i, none⟩) (hk b h.2.2.2.2.1)
  exact ⟨(e _).trans h.1, (e _).trans h.2.1, (e _).trans h.2.2.1, h.2.2.2.1.frame fun c hc => hk c (h.2.2.2.2.2 c hc), h.2.2.2.2.1.same (hk b h.2.2.2.2.1), fun c hc => (h.2.2.2.2.2 c hc).same (hk c (h.2.2.2.2.2 c hc))⟩

/-- The kid number i of what lies somewhere. -/
theorem At.kid {w : World} {b o : Nat} {x : LT} (h : At w b o x) (i : Nat) (hi : i < x.ks.length) : ∃ b' o', x.a = some ⟨b', o', none⟩ ∧ At w b' (o' + i * 3) x.ks[i] := by
  obtain ⟨b', o', ha, hr⟩ := h.2.2.2.1.kids.2.2.resolve_left (fun e => by rw [e] at hi; simp at hi)
  obtain ⟨c0, c1, c2, ho⟩ := rowOk_get hr i hi
  have hbl : x.bl = b' :: bls x.ks := by
    rw [LT.bl_s, ha]; exact sbl_some (fun e => by rw [e] at hi; simp at hi)
  refine ⟨b', o', ha, c0, c1, c2, ho, h.2.2.2.2.2 b' (by rw [hbl]; simp), fun c hc => h.2.2.2.2.2 c (by rw [hbl]; simp [bl_sub (List.getElem_mem hi) c hc])⟩

/-- What the map holds: S are the pairs in comparison. -/
def Mp (w : World) (M : Nat) (S : Value → Prop) : Prop := ∃ es clock, w.heap[M]? = some (.map es clock) ∧ ∀ e ∈ es.toList, e.val = .bool true ∧
  ∃ b o b' o' x y, e.key = pk ⟨b, o, none⟩ ⟨b', o', none⟩ ∧ At w b o x ∧ At w b' o' y ∧ (x.ty = y.ty ∨ S e.key)

/-- The pairs in comparison are larger than n. -/
def Big (w : World) (S : Value → Prop) (n : Nat) : Prop := ∀ v, S v → ∃ b o q x, v = pk ⟨b, o, none⟩ q ∧ At w b o x ∧ n < x.cnt

theorem Mp.keys {w : World} {M : Nat} {S : Value → Prop} (h : Mp w M S) : ∃ es clock, w.heap[M]? = some (.map es clock) ∧ Keys w es ∧ ∀ e ∈ es.toList, e.val = .bool true ∧
    ∃ b o b' o' x y, e.key = pk ⟨b, o, none⟩ ⟨b', o', none⟩ ∧ At w b o x ∧ At w b' o' y ∧ (x.ty = y.ty ∨ S e.key) := by
  obtain ⟨es, cl, hm, h⟩ := h
  refine ⟨es, cl, hm, fun e he => ?_, h⟩
  obtain ⟨hv, b, o, b', o', x, y, hk, hx, hy, _⟩ := h e he
  exact ⟨hv, _, _, hk, hx.2.2.2.2.1, hy.2.2.2.2.1⟩

theorem Big.keep {w w' : World} {S : Value → Prop} {n : Nat} (h : Big w S n) (hk : ∀ c, Free w c → w'.heap[c]? = w.heap[c]?) : Big w' S n := fun v hv => by
  obtain ⟨b, o, q, x, h1, h2, h3⟩ := h v hv
  exact ⟨b, o, q, x, h1, h2.keep hk, h3⟩
theorem Big.mono {w : World} {S : Value → Prop} {n m : Nat} (h : Big w S n) (hm : m ≤ n) : Big w S m := fun v hv => by
  obtain ⟨b, o, q, x, h1, h2, h3⟩ := h v hv
  exact ⟨b, o, q, x, h1, h2, by omega⟩

/-- A pair that is found is equal. -/
theorem found_eq {w : World} {M : Nat} {S : Value → Prop} {es : Array MapEntry} {b o b' o' : Nat} {x y : LT}
    (h : ∀ e ∈ es.toList, e.val = .bool true ∧ ∃ b o b' o' x y, e.key = pk ⟨b, o, none⟩ ⟨b', o', none⟩ ∧ At w b o x ∧ At w b' o' y ∧ (x.ty = y.ty ∨ S e.key))
    (hx : At w b o x) (hy : At w b' o' y) (hB : Big w S x.cnt) (hf : ∃ e ∈ es.toList, e.key = pk ⟨b, o, none⟩ ⟨b', o', none⟩) : x.ty = y.ty := by
  obtain ⟨e, he, hk⟩ := hf
  obtain ⟨_, b1, o1, b2, o2, x', y', hk', hx', hy', hs⟩ := h e he
  rw [hk] at hk' hs
  have := pk_inj hk'
  simp only [Addr.mk.injEq, and_true] at this
  obtain ⟨⟨rfl, rfl⟩, rfl, rfl⟩ := this
  obtain rfl := hx.uniq hx'
  obtain rfl := hy.uniq hy'
  rcases hs with h | hs
  · exact h
  · obtain ⟨b3, o3, q, x3, h1, h2, h3⟩ := hB _ hs
    have := pk_inj h1
    simp only [Addr.mk.injEq, and_true] at this
    obtain ⟨⟨rfl, rfl⟩, _⟩ := this
    obtain rfl := hx.uniq h2
    omega

def put1 (w : World) (M : Nat) (es : Array MapEntry) (cl : Nat) (v : Value) : World := { w with heap := w.heap.setIfInBounds M (.map (es.push ⟨v, .bool true, cl⟩) (cl + 1)) }

theorem put1_chg {w : World} {M cl : Nat} {es : Array MapEntry} {v : Value} : Chg w (put1 w M es cl v) (fun x => x = M) :=
  ⟨rfl, rfl, rfl, by simp [put1], fun x _ hx => by simp [put1, Array.getElem?_setIfInBounds_ne (fun e => hx e.symm)]⟩

/-- The map with one pair more. -/
theorem put1_mp {w : World} {M cl : Nat} {S : Value → Prop} {es : Array MapEntry} {b o b' o' : Nat} {x y : LT} (hm : w.heap[M]? = some (.map es cl))
    (h : ∀ e ∈ es.toList, e.val = .bool true ∧ ∃ b o b' o' x y, e.key = pk ⟨b, o, none⟩ ⟨b', o', none⟩ ∧ At w b o x ∧ At w b' o' y ∧ (x.ty = y.ty ∨ S e.key)) (hx : At w b o x) (hy : At w b' o' y) :
    Mp (put1 w M es cl (pk ⟨b, o, none⟩ ⟨b', o', none⟩)) M (fun v => S v ∨ v = pk ⟨b, o, none⟩ ⟨b', o', none⟩) := by
  have hk := fun c (hc : Free w c) => free_keep hm (put1_chg (es := es) (cl := cl) (v := pk ⟨b, o, none⟩ ⟨b', o', none⟩)) hc
  have hlt : M < w.heap.size := (Array.getElem?_eq_some_iff.1 hm).1
  refine ⟨_, _, by simp only [put1]; rw [Array.getElem?_setIfInBounds_self_of_lt hlt], fun e he => ?_⟩
  rw [Array.toList_push, List.mem_append] at he
  rcases he with he | he
  · obtain ⟨hv, b1, o1, b2, o2, x', y', h1, h2, h3, h4⟩ := h e he
    exact ⟨hv, b1, o1, b2, o2, x', y', h1, h2.keep hk, h3.keep hk, h4.imp id (fun h => .inl h)⟩
  · obtain rfl : e = _ := by simpa using he
    exact ⟨rfl, b, o, b', o', x, y, rfl, hx.keep hk, hy.keep hk, .inr (.inr rfl)⟩

theorem Big.put {w : World} {S : Value → Prop} {b o : Nat} {q : Addr} {x u : LT} (h : Big w S x.cnt) (hx : At w b o x) (hu : u.cnt < x.cnt) : Big w (fun v => S v ∨ v = pk ⟨b, o, none⟩ q) u.cnt := fun v hv => by
  rcases hv with hv | rfl
  · exact (h.mono (by omega)) v hv
  · exact ⟨b, o, q, x, rfl, hx, hu⟩

/-- The pair that was in comparison is equal. -/
theorem Mp.shut {w : World} {M : Nat} {S : Value → Prop} {b o b' o' : Nat} {x y : LT} (h : Mp w M (fun v => S v ∨ v = pk ⟨b, o, none⟩ ⟨b', o', none⟩)) (hx : At w b o x) (hy : At w b' o' y) (he : x.ty = y.ty) : Mp w M S := by
  obtain ⟨es, cl, hm, h⟩ := h
  refine ⟨es, cl, hm, fun e hm => ?_⟩
  obtain ⟨hv, b1, o1, b2, o2, x', y', h1, h2, h3, h4⟩ := h e hm
  refine ⟨hv, b1, o1, b2, o2, x', y', h1, h2, h3, ?_⟩
  rcases h4 with h4 | h4 | h4
  · exact .inl h4
  · exact .inr h4
  · rw [h1] at h4
    have := pk_inj h4
    simp only [Addr.mk.injEq, and_true] at this
    obtain ⟨⟨rfl, rfl⟩, rfl, rfl⟩ := this
    obtain rfl := hx.uniq h2
    obtain rfl := hy.uniq h3
    exact .inl he

theorem kid_cnt (x : LT) (i : Nat) (hi : i < x.ks.length) : x.ks[i].cnt < x.cnt := by
  rw [cnt_eq x]
  have : ∀ (ks : List LT) (t : LT), t ∈ ks → t.cnt ≤ cntl ks := fun ks t ht => by
    induction ks with
    | nil => cases ht
    | cons u us ih =>
      rw [cntl_cons]
      rcases List.mem_cons.1 ht with rfl | h
      · omega
      · have := ih h; omega
  have := this x.ks x.ks[i] (List.getElem_mem hi)
  omega

end Go.Proofs.Ytdlbhjkkgiaidaa.Con
