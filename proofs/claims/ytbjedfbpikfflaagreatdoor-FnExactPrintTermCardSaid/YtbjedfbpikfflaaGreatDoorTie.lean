/-
  DERIVED. GIVEN WITH THE SEED: THE PROGRAM's TIES (one call each: nine closed facts by the kernel) AND EACH ROW's TIE, after the 31st guide's Derived/Test/Toyas{Tie, Card}.lean. No idea stands in it: it is a product of the set-up. Laid BY PROGRAM, IN A SANDBOX (cutbox-door.mjs). By AI agents, Wed Nov 11 2026. No macro, syntax, notation, axiom, sorry.
-/
import Derived.Test.YtbjedfbpikfflaaGreatDoorRows
import Derived.LaidByTextLater
import Derived.SevenTiedAt
import Derived.LaidSub
import Derived.LaidOnce
namespace Go.Proofs.YtbjedfbpikfflaaGreatDoor
open Go
set_option maxRecDepth 100000
theorem seatTie1 : Tryz.prog.laidByTextLater [("loop.example/g01074/impl.operatorTexts", Rows.laid_loop_example_g01074_impl_operatorTexts), ("loop.example/g01074/impl.nodeForms", Rows.laid_loop_example_g01074_impl_nodeForms), ("loop.example/g01074/impl.operatorRanks", Rows.laid_loop_example_g01074_impl_operatorRanks)] [.data, .data, .data] true :=
  Program.laidByTextLater_by_one 35 8 85 (by kernel_rfl) (by kernel_rfl) (by kernel_rfl) (by kernel_rfl) (by kernel_rfl) (by kernel_rfl) (fun _ _ => by kernel_rfl)
theorem noOwnUnsafe : Tryz.pinned.checked.prog.headLifts.contains "ownunsafe" = false := by kernel_rfl
theorem tie : Tryz.prog.laidByTextLater [("loop.example/g01074/impl.operatorTexts", Rows.laid_loop_example_g01074_impl_operatorTexts), ("loop.example/g01074/impl.nodeForms", Rows.laid_loop_example_g01074_impl_nodeForms), ("loop.example/g01074/impl.operatorRanks", Rows.laid_loop_example_g01074_impl_operatorRanks)] [.data, .data, .data] true :=
  Program.laidByTextLater.sub seatTie1 ["loop.example/g01074/impl.operatorTexts", "loop.example/g01074/impl.nodeForms", "loop.example/g01074/impl.operatorRanks"] (by kernel_rfl) (by kernel_rfl)
theorem fnExactPrintTerm_row_tie : Rows.fnExactPrintTermRow.laidByTextAt .later Tryz.pinned [.data, .data, .data] true :=
  OpenClaim.laidByTextAt_later rfl rfl tie noOwnUnsafe
theorem fnExactPrintTermUpto_row_tie : Rows.fnExactPrintTermUptoRow.laidByTextAt .later Tryz.pinned [.data, .data, .data] true :=
  OpenClaim.laidByTextAt_later rfl rfl tie noOwnUnsafe
end Go.Proofs.YtbjedfbpikfflaaGreatDoor
