/-
  The blocks of a core term that lies in memory; a row of core terms that share memory, one element written more. Condition: the core terms lie in memory.
-/
import Derived.Test.YtfbgkbgoooepmaaDoorCoCc
import Derived.Test.YtfbgkbgoooepmaaDoorGrM
namespace Go.Proofs.YtfbgkbgoooepmaaDoor.Con
open Go.RowKit
set_option linter.unusedVariables false

theorem num_bl_lt {w : World} {a : Option Addr} {c : Nat} {L : List Int} (h : numSl w a c L) : ∀ y ∈ nbl nB a L, y < w.heap.size := fun y hy => by
  rcases h.2.2 with rfl | ⟨b, o, rfl, hr⟩
  · simp [nbl] at hy
  · cases L with
    | nil => simp [nbl] at hy
    | cons x L =>
      have hl := cell_lt ((hr 0 (by simp)).1 0 _ rfl)
      rw [nb_ne (by simp)] at hy
      rcases List.mem_cons.1 hy with rfl | hy
      · exact hl
      · obtain ⟨z, _, hz⟩ := List.mem_flatMap.1 hy
        cases hz
theorem ok_bl_lt (u : LK) : ∀ w, u.Ok w → ∀ y ∈ u.bl, y < w.heap.size := by
  refine LK.ind (P := fun u => ∀ w, u.Ok w → ∀ y ∈ u.bl, y < w.heap.size) (fun k v da dc ds a c ks ih w h y hy => ?_) u
  rw [LK.bl_eq] at hy
  obtain ⟨⟨_, _, hd⟩, hk⟩ := (LK.ok_iff _).1 h
  rcases List.mem_append.1 hy with hy | hy
  · exact num_bl_lt hd y hy
  · rcases hk.2.2 with e | ⟨b, o, e, hr⟩
    · have e' : ks = [] := e
      subst e'
      have hy' : y ∈ nbl LK.bl a [] := hy
      simp [nbl] at hy'
    · have e' : a = some ⟨b, o, none⟩ := e
      subst e'
      by_cases hne : ks = []
      · subst hne
        have hy' : y ∈ nbl LK.bl (some ⟨b, o, none⟩) [] := hy
        simp [nbl] at hy'
      · have hy' : y ∈ nbl LK.bl (some ⟨b, o, none⟩) ks := hy
        rw [nb_ne hne] at hy'
        have hpos : 0 < ks.length := by
          cases ks with
          | nil => exact absurd rfl hne
          | cons _ _ => simp
        rcases List.mem_cons.1 hy' with rfl | hy'
        · exact cell_lt ((hr 0 hpos).1 0 _ rfl)
        · obtain ⟨z, hz, hzy⟩ := List.mem_flatMap.1 hy'
          obtain ⟨i, hi, rfl⟩ := List.mem_iff_getElem.1 hz
          exact ih _ (List.getElem_mem hi) w (hr i hi).2 y hzy
theorem kid_bl {u : LK} {y : Nat} {b o : Nat} (ha : u.a = some ⟨b, o, none⟩) (j : Nat) (hj : j < u.ks.length) (hy : y ∈ u.ks[j].bl) : y ∈ u.bl := by
  rw [LK.bl_eq, ha]
  refine List.mem_append.2 (.inr ?_)
  rw [nb_ne (fun e => by rw [e] at hj; simp at hj)]
  exact List.mem_cons_of_mem _ (List.mem_flatMap.2 ⟨_, List.getElem_mem hj, hy⟩)

/-- A block with room for n elements, the first of which are us. -/
def RowS (w : World) (g n : Nat) (us : List LK) : Prop := (∃ cs e, w.heap[g]? = some (.cells cs e (0, 0)) ∧ cs.size = n * 4) ∧ gRow 4 coE LK.Ok w us g 0 ∧ ∀ z ∈ us, g ∉ z.bl
theorem RowS.grow {w w' : World} {g n : Nat} {us : List LK} (h : RowS w g n us) (gr : Gw w w') : RowS w' g n us := by
  obtain ⟨⟨cs, e, h1, h2⟩, h3, h4⟩ := h
  exact ⟨⟨cs, e, (gr.block g (Array.getElem?_eq_some_iff.1 h1).1).trans h1, h2⟩, h3.grow coLen coGr gr, h4⟩
theorem RowS.room {w : World} {g n : Nat} {us : List LK} (h : RowS w g n us) (hn : us.length < n) (j : Nat) (hj : j < 4) : (∃ v, w.cell? ⟨g, us.length * 4 + j, none⟩ = some v) ∧ w.frozen? ⟨g, us.length * 4 + j, none⟩ = false := by
  obtain ⟨⟨cs, e, h1, h2⟩, _⟩ := h
  have hlt : us.length * 4 + j < cs.size := by omega
  exact ⟨⟨cs[us.length * 4 + j], by rw [cell_of_row w g _ cs e _ h1, Array.getElem?_eq_getElem]⟩, by simp [World.frozen?, h1]⟩
theorem RowS.put {w : World} {g n : Nat} {us : List LK} {x : LK} (h : RowS w g n us) (hn : us.length < n) (hx : x.Ok w) (hgx : g ∉ x.bl) : RowS (setRow w g (us.length * 4) (coE x)) g n (us ++ [x]) := by
  obtain ⟨⟨cs, e, h1, h2⟩, h3, h4⟩ := h
  obtain ⟨cs', e1, e2, e3, e4⟩ := setRow_at g e (coE x) w (us.length * 4) cs h1 (by rw [coLen, h2]; omega)
  have hfar : ∀ b, b ≠ g → (setRow w g (us.length * 4) (coE x)).heap[b]? = w.heap[b]? := fun b hb => setRow_far g b hb _ _ _
  have hold : ∀ p, w.cell? ⟨g, p, none⟩ = cs[p]? := fun p => cell_of_row _ _ _ _ _ _ h1
  have hnew : ∀ p, (setRow w g (us.length * 4) (coE x)).cell? ⟨g, p, none⟩ = cs'[p]? := fun p => cell_of_row _ _ _ _ _ _ e1
  refine ⟨⟨cs', e, e1, by rw [e2, h2]⟩, fun i hi => ?_, fun z hz => ?_⟩
  · by_cases hlt : i < us.length
    · obtain ⟨c0, c1⟩ := h3 i hlt
      rw [List.getElem_append_left hlt]
      refine ⟨fun j v hv => ?_, coFr _ _ _ c1 fun b hb => hfar b (fun e => h4 _ (List.getElem_mem hlt) (e ▸ hb))⟩
      have := c0 j v hv
      rw [hold] at this
      have hjk : j < 4 := by
        have := (List.getElem?_eq_some_iff.1 hv).1
        rwa [coLen] at this
      rw [hnew, e3 _ (.inl (by omega))]
      exact this
    · obtain rfl : i = us.length := by simp at hi; omega
      have ee : (us ++ [x])[us.length]'hi = x := by simp
      rw [ee]
      refine ⟨fun j v hv => ?_, coFr _ _ _ hx fun b hb => hfar b (fun e => hgx (e ▸ hb))⟩
      rw [hnew, Nat.zero_add]
      exact e4 j v hv
  · rcases List.mem_append.1 hz with hz | hz
    · exact h4 z hz
    · obtain rfl : z = x := by simpa using hz
      exact hgx

end Go.Proofs.YtfbgkbgoooepmaaDoor.Con
