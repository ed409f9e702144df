/-
  DERIVED. GIVEN WITH THE SEED: THE PROGRAM's TIES (one call each: nine closed facts by the kernel) AND EACH ROW's TIE, after the 31st guide's Derived/Test/Toyas{Tie, Card}.lean. No idea stands in it: it is a product of the set-up. Laid BY PROGRAM, IN A SANDBOX (cutbox-door.mjs). By AI agents, Wed Nov 11 2026. No macro, syntax, notation, axiom, sorry.
-/
import Derived.Test.YtgobiejokgcmmaaDoorRows
import Derived.LaidByTextLater
import Derived.SevenTiedAt
import Derived.LaidSub
import Derived.LaidOnce
namespace Go.Proofs.YtgobiejokgcmmaaDoor
open Go
set_option maxRecDepth 100000
theorem seatTie1 : Tryd.prog.laidByTextLater [("loop.example/g01074/impl.agentForms", Rows.laid_loop_example_g01074_impl_agentForms), ("loop.example/g01074/impl.classNames", Rows.laid_loop_example_g01074_impl_classNames), ("loop.example/g01074/impl.pairTable", Rows.laid_loop_example_g01074_impl_pairTable), ("loop.example/g01074/impl.growthRules", Rows.laid_loop_example_g01074_impl_growthRules)] [.data, .data, .wider, .data] true :=
  Program.laidByTextLater_by_one 55 8 105 (by kernel_rfl) (by kernel_rfl) (by kernel_rfl) (by kernel_rfl) (by kernel_rfl) (by kernel_rfl) (fun _ _ => by kernel_rfl)
theorem noOwnUnsafe : Tryd.pinned.checked.prog.headLifts.contains "ownunsafe" = false := by kernel_rfl
theorem tie : Tryd.prog.laidByTextLater [("loop.example/g01074/impl.agentForms", Rows.laid_loop_example_g01074_impl_agentForms)] [.data] true :=
  Program.laidByTextLater.sub seatTie1 ["loop.example/g01074/impl.agentForms"] (by kernel_rfl) (by kernel_rfl)
theorem fnExactKindName_row_tie : Rows.fnExactKindNameRow.laidByTextAt .later Tryd.pinned [.data] true :=
  OpenClaim.laidByTextAt_later rfl rfl tie noOwnUnsafe
theorem fnExactKindNamed_row_tie : Rows.fnExactKindNamedRow.laidByTextAt .later Tryd.pinned [.data] true :=
  OpenClaim.laidByTextAt_later rfl rfl tie noOwnUnsafe
theorem fnExactPortsOf_row_tie : Rows.fnExactPortsOfRow.laidByTextAt .later Tryd.pinned [.data] true :=
  OpenClaim.laidByTextAt_later rfl rfl tie noOwnUnsafe
theorem tie2 : Tryd.prog.laidByTextLater [("loop.example/g01074/impl.classNames", Rows.laid_loop_example_g01074_impl_classNames)] [.data] true :=
  Program.laidByTextLater.sub seatTie1 ["loop.example/g01074/impl.classNames"] (by kernel_rfl) (by kernel_rfl)
theorem fnExactClassName_row_tie : Rows.fnExactClassNameRow.laidByTextAt .later Tryd.pinned [.data] true :=
  OpenClaim.laidByTextAt_later rfl rfl tie2 noOwnUnsafe
theorem tie3 : Tryd.prog.laidByTextLater [("loop.example/g01074/impl.pairTable", Rows.laid_loop_example_g01074_impl_pairTable)] [.wider] true :=
  Program.laidByTextLater.sub seatTie1 ["loop.example/g01074/impl.pairTable"] (by kernel_rfl) (by kernel_rfl)
theorem fnExactPairClass_row_tie : Rows.fnExactPairClassRow.laidByTextAt .later Tryd.pinned [.wider] true :=
  OpenClaim.laidByTextAt_later rfl rfl tie3 noOwnUnsafe
theorem fnExactFirstOfPair_row_tie : Rows.fnExactFirstOfPairRow.laidByTextAt .later Tryd.pinned [.wider] true :=
  OpenClaim.laidByTextAt_later rfl rfl tie3 noOwnUnsafe
theorem fnPairTable_row_tie : Rows.fnPairTableRow.laidByTextAt .later Tryd.pinned [.wider] true :=
  OpenClaim.laidByTextAt_later rfl rfl tie3 noOwnUnsafe
theorem tie4 : Tryd.prog.laidByTextLater [("loop.example/g01074/impl.growthRules", Rows.laid_loop_example_g01074_impl_growthRules)] [.data] true :=
  Program.laidByTextLater.sub seatTie1 ["loop.example/g01074/impl.growthRules"] (by kernel_rfl) (by kernel_rfl)
theorem fnExactGrowth_row_tie : Rows.fnExactGrowthRow.laidByTextAt .later Tryd.pinned [.data] true :=
  OpenClaim.laidByTextAt_later rfl rfl tie4 noOwnUnsafe
theorem fnExactKindNameUpto_row_tie : Rows.fnExactKindNameUptoRow.laidByTextAt .later Tryd.pinned [.data] true :=
  OpenClaim.laidByTextAt_later rfl rfl tie noOwnUnsafe
theorem fnExactKindNamedUpto_row_tie : Rows.fnExactKindNamedUptoRow.laidByTextAt .later Tryd.pinned [.data] true :=
  OpenClaim.laidByTextAt_later rfl rfl tie noOwnUnsafe
theorem fnExactClassNameUpto_row_tie : Rows.fnExactClassNameUptoRow.laidByTextAt .later Tryd.pinned [.data] true :=
  OpenClaim.laidByTextAt_later rfl rfl tie2 noOwnUnsafe
theorem fnExactPortsOfUpto_row_tie : Rows.fnExactPortsOfUptoRow.laidByTextAt .later Tryd.pinned [.data] true :=
  OpenClaim.laidByTextAt_later rfl rfl tie noOwnUnsafe
theorem fnExactPairClassUpto_row_tie : Rows.fnExactPairClassUptoRow.laidByTextAt .later Tryd.pinned [.wider] true :=
  OpenClaim.laidByTextAt_later rfl rfl tie3 noOwnUnsafe
theorem fnExactFirstOfPairUpto_row_tie : Rows.fnExactFirstOfPairUptoRow.laidByTextAt .later Tryd.pinned [.wider] true :=
  OpenClaim.laidByTextAt_later rfl rfl tie3 noOwnUnsafe
theorem fnExactGrowthUpto_row_tie : Rows.fnExactGrowthUptoRow.laidByTextAt .later Tryd.pinned [.data] true :=
  OpenClaim.laidByTextAt_later rfl rfl tie4 noOwnUnsafe
theorem fnPairTableUpto_row_tie : Rows.fnPairTableUptoRow.laidByTextAt .later Tryd.pinned [.wider] true :=
  OpenClaim.laidByTextAt_later rfl rfl tie3 noOwnUnsafe
end Go.Proofs.YtgobiejokgcmmaaDoor
