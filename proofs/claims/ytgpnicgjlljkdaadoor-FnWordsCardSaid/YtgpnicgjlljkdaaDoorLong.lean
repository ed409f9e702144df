/-
  Contract of the laws' bound on their arguments' lengths: some truth value. No condition.
-/
import Derived.Test.YtgpnicgjlljkdaaDoorRd
namespace Go.Proofs.YtgpnicgjlljkdaaDoor.Con
open Go.RowKit

/-- Some truth value is returned. -/
def SomeBool (e : Ending) : Prop := ∃ r : Bool, e = .returned (.bool r)

theorem law_long (v u : Value) (zs xs : List Int) (w : World) (h : RdBytes w v zs) (g : RdBytes w u xs) :
    Calls Tryd.prog 6 #[v, u] w fun e w' => SomeBool e ∧ w = w' := by
  have m1 := h.2.1
  have m2 := g.2.1
  unfold maxLen at m1 m2
  obtain ⟨ao, cap, rfl⟩ := h.slice
  obtain ⟨au, cup, rfl⟩ := g.slice
  by_cases h1 : 3000 < zs.length
  · go_enter Tryd.func6, Tryd.ntmps6
    go_wp2_with fail
    go_ret
    exact ⟨⟨_, rfl⟩, rfl⟩
  · go_enter Tryd.func6, Tryd.ntmps6
    go_wp2_with fail
    go_ret
    exact ⟨⟨_, rfl⟩, rfl⟩

end Go.Proofs.YtgpnicgjlljkdaaDoor.Con
