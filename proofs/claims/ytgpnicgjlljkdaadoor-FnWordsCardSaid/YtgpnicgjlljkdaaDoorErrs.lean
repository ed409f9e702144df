/-
  Out of a row's condition on the listed variables: strconv's two errors are interface values. No condition.
-/
import Derived.Test.YtgpnicgjlljkdaaDoorReadI
import Derived.LaidLaws
namespace Go.Proofs.YtgpnicgjlljkdaaDoor.Con
open Go.RowKit

/-- A listed variable of an interface type, whose datum is one, holds an interface value. -/
theorem iface_cell {P : Program} {W : World} {name tn : String} {d : DataW Unit} {g t : Nat} {ms : Array (String × TypeId)} {cs : Array Value} {fuel : Nat} {p : List MemPlace}
    (hU : P.underlying t = some (.interface ms)) (hg : P.globalNamed name = some g) (hv : W.var? P name = some cs)
    (hd : DataW.trod (fun _ => ()) P W 0 (fun _ => true) false fuel t cs.toList = some (.iface tn d, p)) : (∃ te pe, W.cell? ⟨g, 0, none⟩ = some (.iface te pe)) ∧ g < W.heap.size := by
  obtain ⟨_, u, v, hc, _, _⟩ := iface_of_trod hU hd
  refine ⟨⟨u, v, ?_⟩, ?_⟩
  · rw [World.var?_cell hg hv 0]
    have : cs.toList[0]? = some (.iface u v) := by rw [hc]; rfl
    simpa using this
  · unfold World.var? at hv
    rw [hg] at hv
    simp only [Option.bind_some] at hv
    cases hh : W.heap[g]? with
    | none => rw [hh] at hv; cases hv
    | some o => exact (Array.getElem?_eq_some_iff.1 hh).1

theorem laidVars_mem {P : Program} {W : World} : ∀ {l : List (String × DataW Unit)} {ps : List MemPlace}, DataW.LaidVars P W l ps → ∀ x ∈ l,
    ∃ g t cs fuel p, P.globalNamed x.1 = some g ∧ (P.globals[g]?).map (·.type) = some t ∧ W.var? P x.1 = some cs ∧ DataW.trod (fun _ => ()) P W 0 (fun _ => true) false fuel t cs.toList = some (x.2, p)
  | [], _, _, x, hx => by cases hx
  | (n, d) :: r, ps, h, x, hx => by
    obtain ⟨g, t, cs, fuel, p, q, h1, h2, h3, h4, h5, _⟩ := h
    rcases List.mem_cons.1 hx with rfl | hx
    · exact ⟨g, t, cs, fuel, p, h1, h2, h3, h4⟩
    · exact laidVars_mem h5 x hx

theorem errs_of {laid : List (String × DataW Unit)} {W : World} {da db : DataW Unit} (h : laidMet Tryd.prog laid W)
    (ha : ("strconv.ErrSyntax", .iface "*errors.errorString" da) ∈ laid) (hb : ("strconv.ErrRange", .iface "*errors.errorString" db) ∈ laid) : ErrsMet W := by
  obtain ⟨ps, hV, _⟩ := h
  obtain ⟨g, t, cs, fuel, p, h1, h2, h3, h4⟩ := laidVars_mem hV _ ha
  obtain ⟨g', t', cs', fuel', p', k1, k2, k3, k4⟩ := laidVars_mem hV _ hb
  obtain rfl := Option.some.inj ((show Tryd.prog.globalNamed "strconv.ErrSyntax" = some 0 by kernel_rfl).symm.trans h1)
  obtain rfl := Option.some.inj ((show Tryd.prog.globalNamed "strconv.ErrRange" = some 1 by kernel_rfl).symm.trans k1)
  obtain rfl := Option.some.inj ((show (Tryd.prog.globals[0]?).map (·.type) = some 51 by kernel_rfl).symm.trans h2)
  obtain rfl := Option.some.inj ((show (Tryd.prog.globals[1]?).map (·.type) = some 51 by kernel_rfl).symm.trans k2)
  have a := iface_cell Tryd.underlying51 h1 h3 h4
  have b := iface_cell Tryd.underlying51 k1 k3 k4
  exact ⟨a.1, b.1, a.2, b.2⟩

end Go.Proofs.YtgpnicgjlljkdaaDoor.Con
