/-
  A map of texts to true, as a set: its look-up and its store. No condition but that the map is the call's own.
-/
import Derived.Test.YtkfplnnncfkjfaaDoorDaVal
import Derived.Test.YtkfplnnncfkjfaaDoorTyStk
import Derived.Maps.Own
import Derived.LaidEql
namespace Go.Proofs.YtkfplnnncfkjfaaDoor.Con
open Go.RowKit
set_option linter.unusedVariables false

def SMap (w : World) (M : Nat) (l : List ByteArray) : Prop := ∃ es clock, w.heap[M]? = some (.map es clock) ∧ (∀ e ∈ es.toList, e.val = .bool true ∧ ∃ s ∈ l, e.key = .string s) ∧ ∀ s ∈ l, ∃ e ∈ es.toList, e.key = .string s

theorem SMap.lt {w : World} {M : Nat} {l : List ByteArray} (h : SMap w M l) : M < w.heap.size := by
  obtain ⟨es, c, h, _⟩ := h
  exact (Array.getElem?_eq_some_iff.1 h).1
theorem SMap.same {w w' : World} {M : Nat} {l : List ByteArray} (h : SMap w M l) (hs : w'.heap[M]? = w.heap[M]?) : SMap w' M l := by
  obtain ⟨es, c, h, k⟩ := h
  exact ⟨es, c, hs.trans h, k⟩
theorem SMap.grow {w w' : World} {M : Nat} {l : List ByteArray} (h : SMap w M l) (g : Gw w w') : SMap w' M l := h.same (g.block M h.lt)
theorem SMap.new (w : World) : SMap (w.alloc (.map #[] 0)) w.heap.size [] := ⟨#[], 0, heap_alloc_new w _, by simp, by simp⟩

theorem und_str : Tryd.prog.underlying 9 = some .string := Tryd.underlying9
theorem und_smap : Tryd.prog.underlying 134 = some (.map 9 4) := by kernel_rfl
theorem ckS (W : World) (e : Bool) (s : ByteArray) : (Instr.checkKey e 10000 9 (.string s)).run Tryd.prog W = .ok () W := by kernel_rfl

theorem bbeq (s t : ByteArray) : (s == t) = decide (s = t) := by
  cases s with | mk a => cases t with | mk b =>
  show (ByteArray.beq ⟨a⟩ ⟨b⟩) = _
  simp [ByteArray.beq, ByteArray.mk.injEq]
  rw [Bool.eq_iff_iff]; simp

theorem findS (s : ByteArray) : ∀ (es : List MapEntry) (i : Nat), (∀ e ∈ es, e.val = .bool true ∧ ∃ t, e.key = .string t) →
    ((∃ e ∈ es, e.key = .string s) → ∃ j, Instr.findNow .string (.string s) es i = some (some (j, .bool true))) ∧ ((∀ e ∈ es, e.key ≠ .string s) → Instr.findNow .string (.string s) es i = some none)
  | [], i, _ => ⟨fun ⟨e, h, _⟩ => (List.not_mem_nil h).elim, fun _ => rfl⟩
  | e :: es, i, h => by
    obtain ⟨hv, t, ht⟩ := h e (by simp)
    obtain ⟨h1, h2⟩ := findS s es (i + 1) (fun x hx => h x (by simp [hx]))
    by_cases hst : s = t
    · subst hst
      refine ⟨fun _ => ⟨i, ?_⟩, fun hn => absurd ht (hn e (by simp))⟩
      simp [Instr.findNow, Instr.sameNow, ht, hv, bbeq]
    · have hb : (s == t) = false := by rw [bbeq]; simpa using hst
      refine ⟨fun ⟨x, hx, hk⟩ => ?_, fun hn => ?_⟩
      · have hx' : x ∈ es := by
          rcases List.mem_cons.1 hx with rfl | h
          · rw [ht] at hk; injection hk with hk; exact absurd hk.symm hst
          · exact h
        obtain ⟨j, hj⟩ := h1 ⟨x, hx', hk⟩
        exact ⟨j, by simp only [Instr.findNow, Instr.sameNow, ht, hb]; exact hj⟩
      · have := h2 fun x hx => hn x (by simp [hx])
        simp only [Instr.findNow, Instr.sameNow, ht, hb]; exact this

theorem findKeyS {W : World} {M : Nat} {es : Array MapEntry} {l : List ByteArray} {s : ByteArray} (h1 : ∀ e ∈ es.toList, e.val = .bool true ∧ ∃ s ∈ l, e.key = .string s) (h2 : ∀ s ∈ l, ∃ e ∈ es.toList, e.key = .string s) :
    (hasB l s = true → ∃ j, (Instr.findKey 9 (.string s) es.toList).run Tryd.prog W = .ok (some (j, .bool true)) W) ∧ (hasB l s = false → (Instr.findKey 9 (.string s) es.toList).run Tryd.prog W = .ok none W) := by
  obtain ⟨f1, f2⟩ := findS s es.toList 0 (fun e he => ⟨(h1 e he).1, by obtain ⟨t, _, ht⟩ := (h1 e he).2; exact ⟨t, ht⟩⟩)
  constructor
  · intro hl
    obtain ⟨j, hj⟩ := f1 (h2 s (hasB_iff.1 hl))
    exact ⟨j, by simp only [Instr.findKey, Sem.run_bind, run_underlying und_str, Result.andThen_ok, hj]; rfl⟩
  · intro hl
    have hj := f2 fun e he hk => by
      obtain ⟨t, ht, hkt⟩ := (h1 e he).2
      rw [hk] at hkt
      injection hkt with hkt
      exact hasB_false.1 hl (hkt ▸ ht)
    simp only [Instr.findKey, Sem.run_bind, run_underlying und_str, Result.andThen_ok, hj]; rfl

theorem SMap.look {W : World} {M : Nat} {l : List ByteArray} (h : SMap W M l) (s : ByteArray) : (Instr.lookup 134 (.map (some M)) (.string s) false).run Tryd.prog W = .ok (.bool (hasB l s)) W := by
  obtain ⟨es, c, hm, h1, h2⟩ := h
  obtain ⟨f1, f2⟩ := findKeyS (W := W) (M := M) (s := s) h1 h2
  cases hb : hasB l s with
  | true =>
    obtain ⟨j, hj⟩ := f1 hb
    simp [Instr.lookup, run_underlying und_smap, MapKept.run_getObj_map hm, ckS, hj, Result.andThen]
  | false =>
    simp [Instr.lookup, run_underlying und_smap, MapKept.run_getObj_map hm, ckS, f2 hb, Result.andThen]

theorem SMap.put {W : World} {M : Nat} {l : List ByteArray} (h : SMap W M l) {s : ByteArray} (hs : hasB l s = false) : ∃ W', (Instr.mapUpdate 134 (.map (some M)) (.string s) (.bool true)).run Tryd.prog W = .ok () W' ∧ SMap W' M (l ++ [s]) ∧ Chg W W' (fun b => b = M) := by
  obtain ⟨es, c, hm, h1, h2⟩ := h
  obtain ⟨f1, f2⟩ := findKeyS (W := W) (M := M) (s := s) h1 h2
  refine ⟨{ W with heap := W.heap.setIfInBounds M (.map (es.push ⟨.string s, .bool true, c⟩) (c + 1)) }, ?_, ⟨es.push ⟨.string s, .bool true, c⟩, c + 1, ?_, ?_, ?_⟩, rfl, rfl, rfl, by simp, fun b hb hn => ?_⟩
  · simp [Instr.mapUpdate, run_underlying und_smap, MapKept.run_getObj_map hm, ckS, f2 hs, MapKept.run_setObj_map _ hm, Result.andThen]
  · have := (Array.getElem?_eq_some_iff.1 hm).1
    simp [this]
  · intro e he
    simp only [Array.toList_push, List.mem_append, List.mem_singleton] at he
    rcases he with he | rfl
    · obtain ⟨a, t, ht, hk⟩ := h1 e he
      exact ⟨a, t, by simp [ht], hk⟩
    · exact ⟨rfl, s, by simp, rfl⟩
  · intro t ht
    simp only [Array.toList_push, List.mem_append, List.mem_singleton] at ht ⊢
    rcases ht with ht | rfl
    · obtain ⟨e, he, hk⟩ := h2 t ht
      exact ⟨e, .inl he, hk⟩
    · exact ⟨_, .inr rfl, rfl⟩
  · show (W.heap.setIfInBounds M _)[b]? = W.heap[b]?
    rw [Array.getElem?_setIfInBounds]
    split
    · next e => exact absurd e.symm hn
    · rfl

end Go.Proofs.YtkfplnnncfkjfaaDoor.Con
