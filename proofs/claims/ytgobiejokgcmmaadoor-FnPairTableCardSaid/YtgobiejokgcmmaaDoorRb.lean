/-
  What a slice of bytes that came in reads as: 'RdBytes w v zs': v is a slice whose numbers are zs. No program in it, no condition.
-/
import Derived.Test.YtgobiejokgcmmaaDoorBase
namespace Go.Proofs.YtgobiejokgcmmaaDoor.Con
open Go.RowKit Go.ChangeShapes Go.WideShapes Go.ChangeAt

/-- The slice v holds the numbers zs. -/
def RdBytes (w : World) (v : Value) (zs : List Int) : Prop :=
  (∀ z ∈ zs, 0 ≤ z ∧ z ≤ 255) ∧ zs.length ≤ maxLen ∧
  ((zs = [] ∧ ∃ ao cap, v = .slice ao 0 cap) ∨
   (∃ k off cap, v = .slice (some ⟨k, off, none⟩) zs.length cap ∧ 0 < zs.length ∧ k < w.heap.size ∧ ∀ j, j < zs.length → w.cell? ⟨k, off + j, none⟩ = some (.int .u8 (zs.getD j 0))))

theorem RdBytes.grow {w w' : World} {v : Value} {zs : List Int} (h : RdBytes w v zs) (g : Below w.heap.size w w') : RdBytes w' v zs := by
  obtain ⟨h1, h2, h3⟩ := h
  refine ⟨h1, h2, h3.imp id ?_⟩
  rintro ⟨k, off, cap, rfl, hp, hk, hc⟩
  exact ⟨k, off, cap, rfl, hp, Nat.lt_of_lt_of_le hk g.size, fun j hj => (g.cell (p := ⟨k, off + j, none⟩) hk).trans (hc j hj)⟩

theorem RdBytes.slice {w : World} {v : Value} {zs : List Int} (h : RdBytes w v zs) : ∃ ao cap, v = .slice ao zs.length cap := by
  obtain ⟨_, _, ⟨rfl, ao, cap, rfl⟩ | ⟨k, off, cap, rfl, _⟩⟩ := h
  · exact ⟨ao, cap, rfl⟩
  · exact ⟨_, cap, rfl⟩

theorem rdBytes_of {H : Type} {enc : TypeId × Value → H} {P : Program} {W : World} {r : Reach} {b0 : Nat} {t e : TypeId} {v : Value} {d : DataW H} {p : List MemPlace} (ht : P.underlying t = some (.slice e)) (he : P.underlying e = some (.int .u8)) (hc : P.cellsOf e = 1)
    (hval : Value.okWide P W r b0 t v) (h : DataW.Trod enc P W 0 (fun _ => true) true t v d p) : ∃ zs, RdBytes W v zs := by
  obtain ⟨a0, len, cap, rfl⟩ := okWide_slice ht hval
  obtain ⟨fuel, hf⟩ := h
  rcases open_ints ht he hc hf with ⟨hcs, hx⟩ | ⟨a, len', cap', zs, hcs, _, hl, hm, hz, hx, hcell, hwz⟩
  · simp [Value.cells] at hcs
    obtain ⟨rfl, rfl, rfl⟩ := hcs
    exact ⟨[], by simp, Nat.zero_le _, Or.inl ⟨rfl, none, 0, rfl⟩⟩
  · simp [Value.cells] at hcs
    obtain ⟨rfl, rfl, rfl⟩ := hcs
    simp only [if_true] at hz
    by_cases h0 : len = 0
    · subst h0
      exact ⟨[], by simp, Nat.zero_le _, Or.inl ⟨rfl, _, cap, rfl⟩⟩
    · obtain ⟨k, off, rfl, hcc⟩ := ints_at hcell (by omega)
      have hlen : (zs.take len).length = len := by rw [List.length_take]; omega
      have hk : k < W.heap.size := by
        have h1 := hcc 0 (by omega)
        rcases Nat.lt_or_ge k W.heap.size with h' | h'
        · exact h'
        · rw [World.cell?] at h1
          simp [Array.getElem?_eq_none h'] at h1
      refine ⟨zs.take len, fun z hz' => bounds_u8 (hwz z (List.mem_of_mem_take hz')), by rw [hlen]; omega, Or.inr ⟨k, off, cap, by rw [hlen], by omega, hk, fun j hj => ?_⟩⟩
      rw [hlen] at hj
      rw [hcc j (by omega)]
      congr 2
      simp only [List.getD_eq_getElem?_getD]
      rw [List.getElem?_take_of_lt hj]

end Go.Proofs.YtgobiejokgcmmaaDoor.Con
