/-
  What the map of a comparer holds: pairs of rows, each with equal elements or still in comparison. In general for elements of k cells; no program in it, no condition.
-/
import Derived.Test.YtkpbiifikkbaeaaGr
import Derived.Test.YtkpbiifikkbaeaaTyBox
namespace Go.Proofs.Ytkpbiifikkbaeaa.Con
open Go.RowKit
set_option linter.unusedVariables false

/-- The key of two rows of one length. -/
def kl (a b : Addr) (n : Nat) : Value := .agg #[.pointer (some a), .pointer (some b), .int .i64 n]
theorem kl_inj {a b c d : Addr} {n m : Nat} (h : kl a b n = kl c d m) : a = c ∧ b = d ∧ n = m := by
  unfold kl at h
  simp only [Value.agg.injEq, Array.mk.injEq, List.cons.injEq, Value.pointer.injEq, Option.some.injEq, Value.int.injEq, true_and, and_true] at h
  exact ⟨h.1, h.2.1, by omega⟩

section
variable {α : Type} (k : Nat) (cE : α → List Value) (ok : World → α → Prop) (cb : α → List Nat) (same : α → α → Prop) (cnt : α → Nat)

def RowF (w : World) (b o : Nat) (xs : List α) : Prop := gRow k cE ok w xs b o ∧ Free w b ∧ ∀ x ∈ xs, ∀ c ∈ cb x, Free w c
def cl (xs : List α) : Nat := (xs.map cnt).sum
def All2 (xs ys : List α) : Prop := xs.length = ys.length ∧ ∀ i (hx : i < xs.length) (hy : i < ys.length), same xs[i] ys[i]
def gUniq : Prop := ∀ (w : World) (x y : α), ok w x → ok w y → cE x = cE y → x = y

/-- One entry of the map. -/
def KlE (w : World) (S : Value → Prop) (e : MapEntry) : Prop := e.val = .bool true ∧ ∃ b o b' o' xs ys, e.key = kl ⟨b, o, none⟩ ⟨b', o', none⟩ xs.length ∧ xs.length = ys.length ∧ RowF k cE ok cb w b o xs ∧ RowF k cE ok cb w b' o' ys ∧ (All2 same xs ys ∨ S e.key)
def KMp (w : World) (M : Nat) (S : Value → Prop) : Prop := ∃ es clock, w.heap[M]? = some (.map es clock) ∧ ∀ e ∈ es.toList, KlE k cE ok cb same w S e
/-- The pairs in comparison are larger than n. -/
def KBig (w : World) (S : Value → Prop) (n : Nat) : Prop := ∀ v, S v → ∃ b o q xs, v = kl ⟨b, o, none⟩ q xs.length ∧ RowF k cE ok cb w b o xs ∧ n < 2 * cl cnt xs + 1
end

section
variable {α : Type} {k : Nat} {cE : α → List Value} {ok : World → α → Prop} {cb : α → List Nat} {same : α → α → Prop} {cnt : α → Nat}

theorem cl_ge {xs : List α} {x : α} (h : x ∈ xs) : cnt x ≤ cl cnt xs := by
  unfold cl
  induction xs with
  | nil => cases h
  | cons u us ih =>
    simp only [List.map_cons, List.sum_cons]
    rcases List.mem_cons.1 h with rfl | h
    · omega
    · have := ih h; omega

theorem RowF.keep (hf : gFr ok cb) {w w' : World} {b o : Nat} {xs : List α} (h : RowF k cE ok cb w b o xs) (hk : ∀ c, Free w c → w'.heap[c]? = w.heap[c]?) : RowF k cE ok cb w' b o xs := by
  obtain ⟨h1, h2, h3⟩ := h
  refine ⟨fun i hi => ⟨fun j v hv => ?_, hf _ _ _ (h1 i hi).2 fun c hc => hk c (h3 _ (List.getElem_mem hi) c hc)⟩, h2.same (hk b h2), fun x hx c hc => (h3 x hx c hc).same (hk c (h3 x hx c hc))⟩
  exact (World.cell?_of_block (w := w) (w' := w') (a := ⟨b, o + i * k + j, none⟩) (hk b h2)).trans ((h1 i hi).1 j v hv)

theorem RowF.uniq (hk : ∀ x, (cE x).length = k) (hu : gUniq cE ok) {w : World} {b o : Nat} {xs ys : List α} (h : RowF k cE ok cb w b o xs) (h' : RowF k cE ok cb w b o ys) (hl : xs.length = ys.length) : xs = ys := by
  refine List.ext_getElem hl fun i hi hi' => hu w _ _ (h.1 i hi).2 (h'.1 i hi').2 (List.ext_getElem (by rw [hk, hk]) fun j hj hj' => ?_)
  have e1 := (h.1 i hi).1 j _ (List.getElem?_eq_getElem hj)
  have e2 := (h'.1 i hi').1 j _ (List.getElem?_eq_getElem hj')
  exact Option.some.inj (e1.symm.trans e2)

theorem kfree_keep {w w' : World} {M : Nat} {es : Array MapEntry} {cl : Nat} (hm : w.heap[M]? = some (.map es cl)) (hc : Chg w w' (fun x => x = M)) {c : Nat} (h : Free w c) : w'.heap[c]? = w.heap[c]? :=
  hc.2.2.2.2 c h.lt (fun e => by subst e; obtain ⟨cs, t, h⟩ := h; rw [hm] at h; cases h)

theorem KlE.keep (hf : gFr ok cb) {w w' : World} {S : Value → Prop} {e : MapEntry} (h : KlE k cE ok cb same w S e) (hk : ∀ c, Free w c → w'.heap[c]? = w.heap[c]?) : KlE k cE ok cb same w' S e := by
  obtain ⟨hv, b, o, b', o', xs, ys, h1, h2, h3, h4, h5⟩ := h
  exact ⟨hv, b, o, b', o', xs, ys, h1, h2, h3.keep hf hk, h4.keep hf hk, h5⟩
theorem KMp.stays (hf : gFr ok cb) {w w' : World} {M : Nat} {S : Value → Prop} (h : KMp k cE ok cb same w M S) (hm : w'.heap[M]? = w.heap[M]?) (hk : ∀ c, Free w c → w'.heap[c]? = w.heap[c]?) : KMp k cE ok cb same w' M S := by
  obtain ⟨es, cl, h1, h2⟩ := h
  exact ⟨es, cl, hm.trans h1, fun e he => (h2 e he).keep hf hk⟩
theorem KBig.keep (hf : gFr ok cb) {w w' : World} {S : Value → Prop} {n : Nat} (h : KBig k cE ok cb cnt w S n) (hk : ∀ c, Free w c → w'.heap[c]? = w.heap[c]?) : KBig k cE ok cb cnt w' S n := fun v hv => by
  obtain ⟨b, o, q, xs, h1, h2, h3⟩ := h v hv
  exact ⟨b, o, q, xs, h1, h2.keep hf hk, h3⟩
theorem KBig.mono {w : World} {S : Value → Prop} {n m : Nat} (h : KBig k cE ok cb cnt w S n) (hm : m ≤ n) : KBig k cE ok cb cnt w S m := fun v hv => by
  obtain ⟨b, o, q, xs, h1, h2, h3⟩ := h v hv
  exact ⟨b, o, q, xs, h1, h2, by omega⟩

/-- A pair that is found is equal. -/
theorem kfound (hk : ∀ x, (cE x).length = k) (hu : gUniq cE ok) {w : World} {S : Value → Prop} {es : Array MapEntry} {b o b' o' n : Nat} {xs ys : List α} (h : ∀ e ∈ es.toList, KlE k cE ok cb same w S e)
    (hx : RowF k cE ok cb w b o xs) (hy : RowF k cE ok cb w b' o' ys) (hl : xs.length = ys.length) (hB : KBig k cE ok cb cnt w S n) (hn : 2 * cl cnt xs + 1 ≤ n) (hf : ∃ e ∈ es.toList, e.key = kl ⟨b, o, none⟩ ⟨b', o', none⟩ xs.length) : All2 same xs ys := by
  obtain ⟨e, he, hk'⟩ := hf
  obtain ⟨_, b1, o1, b2, o2, xs', ys', e1, e2, hx', hy', hs⟩ := h e he
  rw [hk'] at e1 hs
  obtain ⟨i1, i2, i3⟩ := kl_inj e1
  simp only [Addr.mk.injEq, and_true] at i1 i2
  obtain ⟨rfl, rfl⟩ := i1
  obtain ⟨rfl, rfl⟩ := i2
  obtain rfl := hx.uniq hk hu hx' i3
  obtain rfl := hy.uniq hk hu hy' (by omega)
  rcases hs with h | hs
  · exact h
  · obtain ⟨b3, o3, q, x3, j1, j2, j3⟩ := hB _ hs
    obtain ⟨k1, _, k3⟩ := kl_inj j1
    simp only [Addr.mk.injEq, and_true] at k1
    obtain ⟨rfl, rfl⟩ := k1
    obtain rfl := hx.uniq hk hu j2 k3
    omega

def kput (w : World) (M : Nat) (es : Array MapEntry) (cl : Nat) (v : Value) : World := { w with heap := w.heap.setIfInBounds M (.map (es.push ⟨v, .bool true, cl⟩) (cl + 1)) }
theorem kput_chg {w : World} {M cl : Nat} {es : Array MapEntry} {v : Value} : Chg w (kput w M es cl v) (fun x => x = M) :=
  ⟨rfl, rfl, rfl, by simp [kput], fun x _ hx => by simp [kput, Array.getElem?_setIfInBounds_ne (fun e => hx e.symm)]⟩
/-- The map with one pair more. -/
theorem kput_mp (hf : gFr ok cb) {w : World} {M cl : Nat} {S : Value → Prop} {es : Array MapEntry} {b o b' o' : Nat} {xs ys : List α} (hm : w.heap[M]? = some (.map es cl))
    (h : ∀ e ∈ es.toList, KlE k cE ok cb same w S e) (hx : RowF k cE ok cb w b o xs) (hy : RowF k cE ok cb w b' o' ys) (hl : xs.length = ys.length) :
    KMp k cE ok cb same (kput w M es cl (kl ⟨b, o, none⟩ ⟨b', o', none⟩ xs.length)) M (fun v => S v ∨ v = kl ⟨b, o, none⟩ ⟨b', o', none⟩ xs.length) := by
  have hk := fun c (hc : Free w c) => kfree_keep hm (kput_chg (es := es) (cl := cl) (v := kl ⟨b, o, none⟩ ⟨b', o', none⟩ xs.length)) hc
  have hlt : M < w.heap.size := (Array.getElem?_eq_some_iff.1 hm).1
  refine ⟨_, _, by simp only [kput]; rw [Array.getElem?_setIfInBounds_self_of_lt hlt], fun e he => ?_⟩
  rw [Array.toList_push, List.mem_append] at he
  rcases he with he | he
  · obtain ⟨hv, b1, o1, b2, o2, x', y', h1, h2, h3, h4, h5⟩ := h e he
    exact ⟨hv, b1, o1, b2, o2, x', y', h1, h2, h3.keep hf hk, h4.keep hf hk, h5.imp id (fun h => .inl h)⟩
  · obtain rfl : e = _ := by simpa using he
    exact ⟨rfl, b, o, b', o', xs, ys, rfl, hl, hx.keep hf hk, hy.keep hf hk, .inr (.inr rfl)⟩
theorem KBig.put {w : World} {S : Value → Prop} {b o n : Nat} {q : Addr} {xs : List α} {u : α} (h : KBig k cE ok cb cnt w S n) (hx : RowF k cE ok cb w b o xs) (hu : u ∈ xs) (hn : 2 * cl cnt xs + 1 ≤ n) : KBig k cE ok cb cnt w (fun v => S v ∨ v = kl ⟨b, o, none⟩ q xs.length) (2 * cnt u) := fun v hv => by
  have := cl_ge (cnt := cnt) hu
  rcases hv with hv | rfl
  · exact (h.mono (by omega)) v hv
  · exact ⟨b, o, q, xs, rfl, hx, by omega⟩
/-- The pair that was in comparison is equal. -/
theorem KMp.shut (hk : ∀ x, (cE x).length = k) (hu : gUniq cE ok) {w : World} {M : Nat} {S : Value → Prop} {b o b' o' : Nat} {xs ys : List α} (h : KMp k cE ok cb same w M (fun v => S v ∨ v = kl ⟨b, o, none⟩ ⟨b', o', none⟩ xs.length)) (hx : RowF k cE ok cb w b o xs) (hy : RowF k cE ok cb w b' o' ys) (he : All2 same xs ys) : KMp k cE ok cb same w M S := by
  obtain ⟨es, cl, hm, h⟩ := h
  refine ⟨es, cl, hm, fun e hm => ?_⟩
  obtain ⟨hv, b1, o1, b2, o2, x', y', h1, h2, h3, h4, h5⟩ := h e hm
  refine ⟨hv, b1, o1, b2, o2, x', y', h1, h2, h3, h4, ?_⟩
  rcases h5 with h5 | h5 | h5
  · exact .inl h5
  · exact .inr h5
  · rw [h1] at h5
    obtain ⟨i1, i2, i3⟩ := kl_inj h5
    simp only [Addr.mk.injEq, and_true] at i1 i2
    obtain ⟨rfl, rfl⟩ := i1
    obtain ⟨rfl, rfl⟩ := i2
    obtain rfl := hx.uniq hk hu h3 i3.symm
    obtain rfl := hy.uniq hk hu h4 (by have := he.1; omega)
    exact .inl he
end

end Go.Proofs.Ytkpbiifikkbaeaa.Con
