/-
  Declarations in blocks of their own: what stays, and a row of them that is filled one by one ('FillN'). No program in it, no condition.
-/
import Derived.Test.YtpafjhnamdeagaaDa
import Derived.Test.YtpafjhnamdeagaaTyTo
namespace Go.Proofs.Ytpafjhnamdeagaa.Con
open Go.RowKit
set_option linter.unusedVariables false

/-- The blocks of a slice whose elements have blocks. -/
def nbl {α : Type} (cb : α → List Nat) (a : Option Addr) (xs : List α) : List Nat := (if xs.isEmpty then [] else match a with | some x => [x.block] | none => []) ++ xs.flatMap cb
def cbl (c : LC) : List Nat := (LT.mk 0 ⟨#[]⟩ c.a c.cap c.xs).bl
def dbl (d : LD) : List Nat := nbl cbl d.a d.xs

def NewE {α : Type} (ok : World → LN α → Prop) (cb : LN α → List Nat) (B : Nat) (w : World) (c : LN α) : Prop := ok w c ∧ (cb c).Nodup ∧ ∀ b ∈ cb c, B ≤ b ∧ Free w b
def NewSl {α : Type} (ok : World → LN α → Prop) (cb : LN α → List Nat) (B : Nat) (w : World) (a : Option Addr) (cap : Nat) (cs : List (LN α)) : Prop := nsl ok w a cap cs ∧ (nbl cb a cs).Nodup ∧ ∀ b ∈ nbl cb a cs, B ≤ b ∧ Free w b

def Frames {α : Type} (ok : World → LN α → Prop) (cb : LN α → List Nat) : Prop := ∀ (w w' : World) (c : LN α), ok w c → (∀ b ∈ cb c, w'.heap[b]? = w.heap[b]?) → ok w' c

theorem nbl_sub {α : Type} {cb : α → List Nat} {a : Option Addr} {xs : List α} {x : α} (h : x ∈ xs) : ∀ b ∈ cb x, b ∈ nbl cb a xs := fun b hb => List.mem_append_right _ (List.mem_flatMap.2 ⟨x, h, hb⟩)

theorem nsl.frame {α : Type} {ok : World → LN α → Prop} {cb : LN α → List Nat} (hf : Frames ok cb) {w w' : World} {a : Option Addr} {cap : Nat} {cs : List (LN α)} (h : nsl ok w a cap cs) (hb : ∀ b ∈ nbl cb a cs, w'.heap[b]? = w.heap[b]?) : nsl ok w' a cap cs := by
  refine ⟨h.1, h.2.1, h.2.2.imp id fun ⟨b, o, e, hr⟩ => ⟨b, o, e, fun i hi => ?_⟩⟩
  obtain ⟨c0, c1, c2⟩ := hr i hi
  have hne : cs.isEmpty = false := by cases cs with | nil => simp at hi | cons => rfl
  have hbb : w'.heap[b]? = w.heap[b]? := hb b (by unfold nbl; rw [hne, e]; simp)
  have hc : ∀ p, w'.cell? ⟨b, p, none⟩ = w.cell? ⟨b, p, none⟩ := fun p => World.cell?_of_block (w := w) (w' := w') (a := ⟨b, p, none⟩) hbb
  exact ⟨(hc _).trans c0, (hc _).trans c1, hf _ _ _ c2 fun x hx => hb x (nbl_sub (List.getElem_mem hi) x hx)⟩

theorem cFrames : Frames cOk cbl := fun w w' c h hb => by
  refine ⟨h.1, ?_⟩
  have h2 : (LT.mk 0 ⟨#[]⟩ c.a c.cap c.xs).Ok w := LT.ok_mk (Nat.zero_le _) (by simp [LT.k]) (by simp [LT.k]) h.2
  exact (h2.frame hb).kids
theorem dFrames : Frames dOk dbl := fun w w' d h hb => ⟨h.1, nsl.frame cFrames h.2 hb⟩

theorem NewE.c {B : Nat} {w : World} {c : LC} (h : slNew B w c.a c.cap c.xs) (hn : c.n.size ≤ maxLen) : NewE cOk cbl B w c := ⟨⟨hn, h.ok⟩, h.2.1, h.2.2⟩
theorem NewE.d {B : Nat} {w : World} {d : LD} (h : NewSl cOk cbl B w d.a d.cap d.xs) (hn : d.n.size ≤ maxLen) : NewE dOk dbl B w d := ⟨⟨hn, h.1⟩, h.2.1, h.2.2⟩
theorem NewE.mono {α : Type} {ok : World → LN α → Prop} {cb : LN α → List Nat} {B B' : Nat} {w : World} {c : LN α} (h : NewE ok cb B w c) (hB : B' ≤ B) : NewE ok cb B' w c := ⟨h.1, h.2.1, fun b hb => ⟨Nat.le_trans hB (h.2.2 b hb).1, (h.2.2 b hb).2⟩⟩
theorem NewE.far {α : Type} {ok : World → LN α → Prop} {cb : LN α → List Nat} (hf : Frames ok cb) {B : Nat} {w : World} {c : LN α} (h : NewE ok cb B w c) (p : Addr) (hp : p.block ∉ cb c) (v : Value) : NewE ok cb B (w.setCell p v) c :=
  ⟨hf _ _ _ h.1 fun b hb => Below.heap_setCell w p v b (fun e => hp (e ▸ hb)), h.2.1, fun b hb => ⟨(h.2.2 b hb).1, (h.2.2 b hb).2.set _ _⟩⟩

/-- A row that is filled one by one. -/
def FillN {α : Type} (ok : World → LN α → Prop) (cb : LN α → List Nat) (w : World) (g n : Nat) (us : List (LN α)) : Prop :=
  us.length ≤ n ∧ (∃ cs e, w.heap[g]? = some (.cells cs e (0, 0)) ∧ cs.size = 2 * n) ∧ nrow ok w us g 0 ∧ (us.flatMap cb).Nodup ∧ ∀ b ∈ us.flatMap cb, g < b ∧ Free w b

section
variable {α : Type} {ok : World → LN α → Prop} {cb : LN α → List Nat}

theorem FillN.start (w : World) (g n : Nat) (h : ∃ cs e, w.heap[g]? = some (.cells cs e (0, 0)) ∧ cs.size = 2 * n) : FillN ok cb w g n [] :=
  ⟨Nat.zero_le _, h, fun i hi => by simp at hi, List.nodup_nil, fun _ h => by cases h⟩
theorem FillN.grow (hok : ∀ {w w' : World} {c : LN α}, ok w c → Below w.heap.size w w' → ok w' c) {w w' : World} {g n : Nat} {us : List (LN α)} (h : FillN ok cb w g n us) (gr : Below w.heap.size w w') : FillN ok cb w' g n us := by
  obtain ⟨h0, ⟨cs, e, h1, h2⟩, h3, h4, h5⟩ := h
  exact ⟨h0, ⟨cs, e, (gr.block g (Array.getElem?_eq_some_iff.1 h1).1).trans h1, h2⟩, h3.grow gr (fun _ h => hok h gr), h4, fun b hb => ⟨(h5 b hb).1, (h5 b hb).2.grow gr⟩⟩
theorem FillN.room {w : World} {g n : Nat} {us : List (LN α)} (h : FillN ok cb w g n us) (j : Nat) (hj : j < 2 * n) : ∃ v, w.cell? ⟨g, j, none⟩ = some v := by
  obtain ⟨_, ⟨cs, e, h1, h2⟩, _⟩ := h
  exact ⟨cs[j]'(by omega), by rw [cell_of_row w g j cs e _ h1, Array.getElem?_eq_getElem]⟩
theorem FillN.free {w : World} {g n : Nat} {us : List (LN α)} (h : FillN ok cb w g n us) (j : Nat) : w.frozen? ⟨g, j, none⟩ = false := by
  obtain ⟨_, ⟨cs, e, h1, h2⟩, _⟩ := h
  simp [World.frozen?, h1]
theorem FillN.lt {w : World} {g n : Nat} {us : List (LN α)} (h : FillN ok cb w g n us) : g < w.heap.size := by
  obtain ⟨_, ⟨cs, e, h1, _⟩, _⟩ := h
  exact (Array.getElem?_eq_some_iff.1 h1).1

/-- One place more: the two stores of a struct. -/
theorem FillN.put (hf : Frames ok cb) {w : World} {g n : Nat} {us : List (LN α)} (h : FillN ok cb w g n us) (hn : us.length < n) {B : Nat} {u : LN α} (hu : NewE ok cb B w u) (hB : ∀ b ∈ us.flatMap cb, b < B) (hg : g < B) :
    FillN ok cb ((w.setCell ⟨g, us.length * 2, none⟩ (.string u.n)).setCell ⟨g, us.length * 2 + 1, none⟩ (.slice u.a u.xs.length u.cap)) g n (us ++ [u]) := by
  obtain ⟨h0, ⟨cs, e, h1, h2⟩, h3, h4, h5⟩ := h
  have hfm : (us ++ [u]).flatMap cb = us.flatMap cb ++ cb u := by simp
  have hset : ∀ (i : Nat) (v : Value) (w1 : World) (c1 : Array Value), w1.heap[g]? = some (.cells c1 e (0, 0)) → (w1.setCell ⟨g, i, none⟩ v).heap[g]? = some (.cells (c1.setIfInBounds i v) e (0, 0)) := fun i v w1 c1 hh => by
    simp [World.setCell, Array.getElem?_modify, hh]
  have e1 := hset (us.length * 2) (.string u.n) w cs h1
  have e2 := hset (us.length * 2 + 1) (.slice u.a u.xs.length u.cap) _ _ e1
  have hfar : ∀ b, b ≠ g → ((w.setCell ⟨g, us.length * 2, none⟩ (.string u.n)).setCell ⟨g, us.length * 2 + 1, none⟩ (.slice u.a u.xs.length u.cap)).heap[b]? = w.heap[b]? := fun b hb => by
    rw [Below.heap_setCell _ _ _ _ hb, Below.heap_setCell _ _ _ _ hb]
  refine ⟨by simp; omega, ⟨_, e, e2, by simp [h2]⟩, fun i hi => ?_, ?_, ?_⟩
  · have hc : ∀ p, ((w.setCell ⟨g, us.length * 2, none⟩ (.string u.n)).setCell ⟨g, us.length * 2 + 1, none⟩ (.slice u.a u.xs.length u.cap)).cell? ⟨g, p, none⟩ = ((cs.setIfInBounds (us.length * 2) (.string u.n)).setIfInBounds (us.length * 2 + 1) (.slice u.a u.xs.length u.cap))[p]? := fun p => cell_of_row _ g p _ e _ e2
    have ho : ∀ p, w.cell? ⟨g, p, none⟩ = cs[p]? := fun p => cell_of_row _ g p _ e _ h1
    simp only [hc]
    by_cases hlt : i < us.length
    · obtain ⟨q0, q1, q2⟩ := h3 i hlt
      rw [ho] at q0 q1
      rw [List.getElem_append_left hlt]
      refine ⟨?_, ?_, hf _ _ _ q2 fun b hb => hfar b fun e => ?_⟩
      · rw [Array.getElem?_setIfInBounds_ne (by omega), Array.getElem?_setIfInBounds_ne (by omega)]; exact q0
      · rw [Array.getElem?_setIfInBounds_ne (by omega), Array.getElem?_setIfInBounds_ne (by omega)]; exact q1
      · have := (h5 b (List.mem_flatMap.2 ⟨_, List.getElem_mem hlt, hb⟩)).1
        omega
    · obtain rfl : i = us.length := by simp at hi; omega
      have eu : (us ++ [u])[us.length]'hi = u := by simp
      rw [eu, Nat.zero_add]
      refine ⟨?_, ?_, hf _ _ _ hu.1 fun b hb => hfar b fun e => ?_⟩
      · rw [Array.getElem?_setIfInBounds_ne (by omega), Array.getElem?_setIfInBounds_self_of_lt (by omega)]
      · rw [Array.getElem?_setIfInBounds_self_of_lt (by simp; omega)]
      · have := (hu.2.2 b hb).1
        omega
  · rw [hfm, List.nodup_append]
    refine ⟨h4, hu.2.1, fun a ha b hb => ?_⟩
    have h6 := hB a ha
    have h7 := (hu.2.2 b hb).1
    omega
  · intro b hb
    rw [hfm] at hb
    rcases List.mem_append.1 hb with hb | hb
    · exact ⟨(h5 b hb).1, (h5 b hb).2.same (hfar b (by have := (h5 b hb).1; omega))⟩
    · have := hu.2.2 b hb
      exact ⟨by omega, this.2.same (hfar b (by omega))⟩

theorem FillN.done {w : World} {g n cap B : Nat} {us : List (LN α)} (h : FillN ok cb w g n us) (hl : us.length ≤ cap) (hc : cap ≤ maxLen) (hB : B ≤ g) : NewSl ok cb B w (some ⟨g, 0, none⟩) cap us := by
  obtain ⟨h0, ⟨cs, e, h1, h2⟩, h3, h4, h5⟩ := h
  refine ⟨⟨hl, hc, .inr ⟨g, 0, rfl, h3⟩⟩, ?_, ?_⟩
  · show ((if us.isEmpty then [] else [g]) ++ us.flatMap cb).Nodup
    cases us with
    | nil => simp
    | cons u us =>
      simp only [List.isEmpty_cons, Bool.false_eq_true, if_false, List.singleton_append, List.nodup_cons]
      exact ⟨fun hm => by have := (h5 g hm).1; omega, h4⟩
  · intro b hb
    have hb' : b ∈ (if us.isEmpty then [] else [g]) ++ us.flatMap cb := hb
    rcases List.mem_append.1 hb' with hb | hb
    · cases us with
      | nil => simp at hb
      | cons u us =>
        simp at hb
        subst hb
        exact ⟨hB, cs, e, h1⟩
    · have := h5 b hb
      exact ⟨by omega, this.2⟩
end

end Go.Proofs.Ytpafjhnamdeagaa.Con
