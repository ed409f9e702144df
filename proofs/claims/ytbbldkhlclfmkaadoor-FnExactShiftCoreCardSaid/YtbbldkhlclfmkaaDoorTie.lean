/-
  DERIVED. GIVEN WITH THE SEED: THE PROGRAM's TIES (one call each: nine closed facts by the kernel) AND EACH ROW's TIE, after the 31st guide's Derived/Test/Toyas{Tie, Card}.lean. No idea stands in it: it is a product of the set-up. Laid BY PROGRAM, IN A SANDBOX (cutbox-door.mjs). By AI agents, Wed Nov 11 2026. No macro, syntax, notation, axiom, sorry.
-/
import Derived.Test.YtbbldkhlclfmkaaDoorRows
import Derived.LaidByTextLater
import Derived.SevenTiedAt
import Derived.LaidSub
import Derived.LaidOnce
namespace Go.Proofs.YtbbldkhlclfmkaaDoor
open Go
set_option maxRecDepth 100000
theorem seatTie1 : Tryd.prog.laidByTextLater [("loop.example/g01074/impl.operatorTexts", Rows.laid_loop_example_g01074_impl_operatorTexts), ("loop.example/g01074/impl.coreForms", Rows.laid_loop_example_g01074_impl_coreForms)] [.data, .data] true :=
  Program.laidByTextLater_by_one 30 8 73 (by kernel_rfl) (by kernel_rfl) (by kernel_rfl) (by kernel_rfl) (by kernel_rfl) (by kernel_rfl) (fun _ _ => by kernel_rfl)
theorem noOwnUnsafe : Tryd.pinned.checked.prog.headLifts.contains "ownunsafe" = false := by kernel_rfl
theorem tie : Tryd.prog.laidByTextLater [("loop.example/g01074/impl.operatorTexts", Rows.laid_loop_example_g01074_impl_operatorTexts), ("loop.example/g01074/impl.coreForms", Rows.laid_loop_example_g01074_impl_coreForms)] [.data, .data] true :=
  Program.laidByTextLater.sub seatTie1 ["loop.example/g01074/impl.operatorTexts", "loop.example/g01074/impl.coreForms"] (by kernel_rfl) (by kernel_rfl)
theorem fnExactCoreText_row_tie : Rows.fnExactCoreTextRow.laidByTextAt .later Tryd.pinned [.data, .data] true :=
  OpenClaim.laidByTextAt_later rfl rfl tie noOwnUnsafe
theorem tie2 : Tryd.prog.laidByTextLater [("loop.example/g01074/impl.coreForms", Rows.laid_loop_example_g01074_impl_coreForms)] [.data] true :=
  Program.laidByTextLater.sub seatTie1 ["loop.example/g01074/impl.coreForms"] (by kernel_rfl) (by kernel_rfl)
theorem fnExactShiftCore_row_tie : Rows.fnExactShiftCoreRow.laidByTextAt .later Tryd.pinned [.data] true :=
  OpenClaim.laidByTextAt_later rfl rfl tie2 noOwnUnsafe
theorem fnExactInstantiateCore_row_tie : Rows.fnExactInstantiateCoreRow.laidByTextAt .later Tryd.pinned [.data] true :=
  OpenClaim.laidByTextAt_later rfl rfl tie2 noOwnUnsafe
theorem fnExactIsStratified_row_tie : Rows.fnExactIsStratifiedRow.laidByTextAt .later Tryd.pinned [.data] true :=
  OpenClaim.laidByTextAt_later rfl rfl tie2 noOwnUnsafe
theorem fnExactCoreTextUpto_row_tie : Rows.fnExactCoreTextUptoRow.laidByTextAt .later Tryd.pinned [.data, .data] true :=
  OpenClaim.laidByTextAt_later rfl rfl tie noOwnUnsafe
theorem fnExactShiftCoreUpto_row_tie : Rows.fnExactShiftCoreUptoRow.laidByTextAt .later Tryd.pinned [.data] true :=
  OpenClaim.laidByTextAt_later rfl rfl tie2 noOwnUnsafe
theorem fnExactInstantiateCoreUpto_row_tie : Rows.fnExactInstantiateCoreUptoRow.laidByTextAt .later Tryd.pinned [.data] true :=
  OpenClaim.laidByTextAt_later rfl rfl tie2 noOwnUnsafe
theorem fnExactIsStratifiedUpto_row_tie : Rows.fnExactIsStratifiedUptoRow.laidByTextAt .later Tryd.pinned [.data] true :=
  OpenClaim.laidByTextAt_later rfl rfl tie2 noOwnUnsafe
end Go.Proofs.YtbbldkhlclfmkaaDoor
