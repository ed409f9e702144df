/-
  NARROWER THAN 'FOR EVERY INPUT', by the rows' own cells (each row's printed sentence says how): FnExactValidCore: loops, laid · FnExactCoreSize: loops, laid · FnExactIsErased: loops, laid · FnExactIsClosed: loops, laid · FnExactCountVar: loops, laid · FnExactValidBook: loops, laid · FnExactIsStratified: loops, laid · FnExactShiftCore: loops, laid · FnExactInstantiateCore: loops, laid · FnExactEraseCore: loops, laid · FnExactEraseBook: loops, laid · FnExactIsNormal: loops, laid.
  DERIVED. THE GIVEN ROWS OF THIS SEAT. 12 by the template 'for every input the law returns true; each argument reads behind the call as it read before'; 0 by the template 'total and deterministic' (their statements: YtfbgkbgoooepmaaDoorTotals.lean).
  GIVEN WITH THE SEED: the statements are not yours to turn. If you find one false, say at which input.
  Laid BY PROGRAM, IN A SANDBOX (cutbox-rows.mjs): the forced cells as the released guide's own fill.sh prints them over the translation 629ba375aeecd203… (all of the seat's roots in one cut). By AI agents, Wed Nov 11 2026. No macro, syntax, notation, axiom, sorry.
-/
import Derived.Test.YtfbgkbgoooepmaaDoorChecked
import GoSem.Claim
import GoSem.ClaimJoined
import GoSem.ClaimMapViews
import Derived.JoinedTies
import Derived.KernelRfl
namespace Go.Proofs.YtfbgkbgoooepmaaDoor
/- THE CELL 'sum', in the pinned program and in every row, IS THE sha256 OF THE DUMP (.gsa) THAT YtfbgkbgoooepmaaDoorProg.lean LOADS. Nothing in Lean hashes anything: it is a label: what it is worth is what the hold of that sum in a sandbox is worth. -/
noncomputable def Tryd.pinned : Pinned := { name := "ytfbgkbgoooepmaadoor", sum := "629ba375aeecd2036ea9c8a247f1f0f0d10ce3d8c5b0f46ec883e1ad11cca6e6", checked := Tryd.checked }
namespace Rows
def none {H : Type} : Left H := { results := [], args := [] }

/- WHAT THE LISTED PACKAGE-LEVEL VARIABLES READ AS WHEN THE CALL BEGINS. Each datum BY PROGRAM (the guide's laid-datum.mjs) off the statement by which the dump's own 'gosem.cut.vars' lays the variable. In a bare row this is a premise. The card (YtfbgkbgoooepmaaDoorCards.lean) ties it to the program's text. -/
def laid_loop_example_g01074_impl_coreForms {H : Type} : DataW H := .agg [.agg [.lit (.int .i64 0), .lit (.int .i64 0), .lit (.int .i64 0), .lit (.int .i64 0), .lit (.int .i64 0), .lit (.int .i64 0)], .agg [.lit (.int .i64 0), .lit (.int .i64 255), .lit (.int .i64 0), .lit (.int .i64 0), .lit (.int .i64 0), .lit (.int .i64 0)], .agg [.lit (.int .i64 (-2147483648)), .lit (.int .i64 2147483647), .lit (.int .i64 0), .lit (.int .i64 0), .lit (.int .i64 0), .lit (.int .i64 0)], .agg [.lit (.int .i64 1), .lit (.int .i64 6), .lit (.int .i64 0), .lit (.int .i64 0), .lit (.int .i64 2), .lit (.int .i64 2)], .agg [.lit (.int .i64 0), .lit (.int .i64 0), .lit (.int .i64 0), .lit (.int .i64 0), .lit (.int .i64 1), .lit (.int .i64 1)], .agg [.lit (.int .i64 0), .lit (.int .i64 0), .lit (.int .i64 0), .lit (.int .i64 0), .lit (.int .i64 2), .lit (.int .i64 2)], .agg [.lit (.int .i64 0), .lit (.int .i64 0), .lit (.int .i64 0), .lit (.int .i64 0), .lit (.int .i64 1), .lit (.int .i64 1)], .agg [.lit (.int .i64 0), .lit (.int .i64 0), .lit (.int .i64 0), .lit (.int .i64 0), .lit (.int .i64 2), .lit (.int .i64 2)], .agg [.lit (.int .i64 0), .lit (.int .i64 3), .lit (.int .i64 0), .lit (.int .i64 0), .lit (.int .i64 0), .lit (.int .i64 3)], .agg [.lit (.int .i64 0), .lit (.int .i64 0), .lit (.int .i64 1), .lit (.int .i64 4), .lit (.int .i64 1), .lit (.int .i64 1)], .agg [.lit (.int .i64 0), .lit (.int .i64 0), .lit (.int .i64 2), .lit (.int .i64 2), .lit (.int .i64 1), .lit (.int .i64 1)], .agg [.lit (.int .i64 0), .lit (.int .i64 23), .lit (.int .i64 0), .lit (.int .i64 0), .lit (.int .i64 0), .lit (.int .i64 0)]]

/-- 'laws.FnExactValidCore': WHATEVER THE INPUT: true; the input reads as it did. -/
def fnExactValidCoreSpec : ChangeSpec := { name := "fnExactValidCore", vars := ["loop.example/g01074/impl.coreForms"], fn := fun _ => fun
  | [d, g1] => { results := [.lit (.bool true)], args := [d], vars := [g1] }
  | _ => none }
def fnExactValidCoreRow : OpenClaim := { program := "ytfbgkbgoooepmaadoor", sum := "629ba375aeecd2036ea9c8a247f1f0f0d10ce3d8c5b0f46ec883e1ad11cca6e6", func := "loop.example/g01074/laws.FnExactValidCore", spec := "fnExactValidCore", unfollowed := true, recurses := true, named := ["loop.example/g01074/impl.coreForms"], loops := true, apart := false, laid := [("loop.example/g01074/impl.coreForms", laid_loop_example_g01074_impl_coreForms)] }
def FnExactValidCoreSaid : Prop := fnExactValidCoreRow.holds Tryd.pinned (OpenSpec.ofChange fnExactValidCoreSpec)

/-- ITS FALSE NEIGHBOUR: 'it returns false'. Refute it at one input. -/
def fnExactValidCoreWrong : ChangeSpec := { name := "fnExactValidCore", vars := ["loop.example/g01074/impl.coreForms"], fn := fun _ => fun
  | [d, g1] => { results := [.lit (.bool false)], args := [d], vars := [g1] }
  | _ => none }
def FnExactValidCoreWrongFalsely : Prop := fnExactValidCoreRow.holds Tryd.pinned (OpenSpec.ofChange fnExactValidCoreWrong)

/-- 'laws.FnExactCoreSize': WHATEVER THE INPUT: true; the input reads as it did. -/
def fnExactCoreSizeSpec : ChangeSpec := { name := "fnExactCoreSize", vars := ["loop.example/g01074/impl.coreForms"], fn := fun _ => fun
  | [d, g1] => { results := [.lit (.bool true)], args := [d], vars := [g1] }
  | _ => none }
def fnExactCoreSizeRow : OpenClaim := { program := "ytfbgkbgoooepmaadoor", sum := "629ba375aeecd2036ea9c8a247f1f0f0d10ce3d8c5b0f46ec883e1ad11cca6e6", func := "loop.example/g01074/laws.FnExactCoreSize", spec := "fnExactCoreSize", unfollowed := true, recurses := true, named := ["loop.example/g01074/impl.coreForms"], loops := true, apart := false, laid := [("loop.example/g01074/impl.coreForms", laid_loop_example_g01074_impl_coreForms)] }
def FnExactCoreSizeSaid : Prop := fnExactCoreSizeRow.holds Tryd.pinned (OpenSpec.ofChange fnExactCoreSizeSpec)

/-- ITS FALSE NEIGHBOUR: 'it returns false'. Refute it at one input. -/
def fnExactCoreSizeWrong : ChangeSpec := { name := "fnExactCoreSize", vars := ["loop.example/g01074/impl.coreForms"], fn := fun _ => fun
  | [d, g1] => { results := [.lit (.bool false)], args := [d], vars := [g1] }
  | _ => none }
def FnExactCoreSizeWrongFalsely : Prop := fnExactCoreSizeRow.holds Tryd.pinned (OpenSpec.ofChange fnExactCoreSizeWrong)

/-- 'laws.FnExactIsErased': WHATEVER THE INPUT: true; the input reads as it did. -/
def fnExactIsErasedSpec : ChangeSpec := { name := "fnExactIsErased", vars := ["loop.example/g01074/impl.coreForms"], fn := fun _ => fun
  | [d, g1] => { results := [.lit (.bool true)], args := [d], vars := [g1] }
  | _ => none }
def fnExactIsErasedRow : OpenClaim := { program := "ytfbgkbgoooepmaadoor", sum := "629ba375aeecd2036ea9c8a247f1f0f0d10ce3d8c5b0f46ec883e1ad11cca6e6", func := "loop.example/g01074/laws.FnExactIsErased", spec := "fnExactIsErased", unfollowed := true, recurses := true, named := ["loop.example/g01074/impl.coreForms"], loops := true, apart := false, laid := [("loop.example/g01074/impl.coreForms", laid_loop_example_g01074_impl_coreForms)] }
def FnExactIsErasedSaid : Prop := fnExactIsErasedRow.holds Tryd.pinned (OpenSpec.ofChange fnExactIsErasedSpec)

/-- ITS FALSE NEIGHBOUR: 'it returns false'. Refute it at one input. -/
def fnExactIsErasedWrong : ChangeSpec := { name := "fnExactIsErased", vars := ["loop.example/g01074/impl.coreForms"], fn := fun _ => fun
  | [d, g1] => { results := [.lit (.bool false)], args := [d], vars := [g1] }
  | _ => none }
def FnExactIsErasedWrongFalsely : Prop := fnExactIsErasedRow.holds Tryd.pinned (OpenSpec.ofChange fnExactIsErasedWrong)

/-- 'laws.FnExactIsClosed': WHATEVER THE INPUT: true; the input reads as it did. -/
def fnExactIsClosedSpec : ChangeSpec := { name := "fnExactIsClosed", vars := ["loop.example/g01074/impl.coreForms"], fn := fun _ => fun
  | [d, g1] => { results := [.lit (.bool true)], args := [d], vars := [g1] }
  | _ => none }
def fnExactIsClosedRow : OpenClaim := { program := "ytfbgkbgoooepmaadoor", sum := "629ba375aeecd2036ea9c8a247f1f0f0d10ce3d8c5b0f46ec883e1ad11cca6e6", func := "loop.example/g01074/laws.FnExactIsClosed", spec := "fnExactIsClosed", unfollowed := true, recurses := true, named := ["loop.example/g01074/impl.coreForms"], loops := true, apart := false, laid := [("loop.example/g01074/impl.coreForms", laid_loop_example_g01074_impl_coreForms)] }
def FnExactIsClosedSaid : Prop := fnExactIsClosedRow.holds Tryd.pinned (OpenSpec.ofChange fnExactIsClosedSpec)

/-- ITS FALSE NEIGHBOUR: 'it returns false'. Refute it at one input. -/
def fnExactIsClosedWrong : ChangeSpec := { name := "fnExactIsClosed", vars := ["loop.example/g01074/impl.coreForms"], fn := fun _ => fun
  | [d, g1] => { results := [.lit (.bool false)], args := [d], vars := [g1] }
  | _ => none }
def FnExactIsClosedWrongFalsely : Prop := fnExactIsClosedRow.holds Tryd.pinned (OpenSpec.ofChange fnExactIsClosedWrong)

/-- 'laws.FnExactCountVar': WHATEVER THE INPUT: true; the input reads as it did. -/
def fnExactCountVarSpec : ChangeSpec := { name := "fnExactCountVar", vars := ["loop.example/g01074/impl.coreForms"], fn := fun _ => fun
  | [d1, d2, g1] => { results := [.lit (.bool true)], args := [d1, d2], vars := [g1] }
  | _ => none }
def fnExactCountVarRow : OpenClaim := { program := "ytfbgkbgoooepmaadoor", sum := "629ba375aeecd2036ea9c8a247f1f0f0d10ce3d8c5b0f46ec883e1ad11cca6e6", func := "loop.example/g01074/laws.FnExactCountVar", spec := "fnExactCountVar", unfollowed := true, recurses := true, named := ["loop.example/g01074/impl.coreForms"], loops := true, apart := false, laid := [("loop.example/g01074/impl.coreForms", laid_loop_example_g01074_impl_coreForms)] }
def FnExactCountVarSaid : Prop := fnExactCountVarRow.holds Tryd.pinned (OpenSpec.ofChange fnExactCountVarSpec)

/-- ITS FALSE NEIGHBOUR: 'it returns false'. Refute it at one input. -/
def fnExactCountVarWrong : ChangeSpec := { name := "fnExactCountVar", vars := ["loop.example/g01074/impl.coreForms"], fn := fun _ => fun
  | [d1, d2, g1] => { results := [.lit (.bool false)], args := [d1, d2], vars := [g1] }
  | _ => none }
def FnExactCountVarWrongFalsely : Prop := fnExactCountVarRow.holds Tryd.pinned (OpenSpec.ofChange fnExactCountVarWrong)

/-- 'laws.FnExactValidBook': WHATEVER THE INPUT: true; the input reads as it did. -/
def fnExactValidBookSpec : ChangeSpec := { name := "fnExactValidBook", vars := ["loop.example/g01074/impl.coreForms"], fn := fun _ => fun
  | [d, g1] => { results := [.lit (.bool true)], args := [d], vars := [g1] }
  | _ => none }
def fnExactValidBookRow : OpenClaim := { program := "ytfbgkbgoooepmaadoor", sum := "629ba375aeecd2036ea9c8a247f1f0f0d10ce3d8c5b0f46ec883e1ad11cca6e6", func := "loop.example/g01074/laws.FnExactValidBook", spec := "fnExactValidBook", unfollowed := true, recurses := true, named := ["loop.example/g01074/impl.coreForms"], loops := true, apart := false, laid := [("loop.example/g01074/impl.coreForms", laid_loop_example_g01074_impl_coreForms)] }
def FnExactValidBookSaid : Prop := fnExactValidBookRow.holds Tryd.pinned (OpenSpec.ofChange fnExactValidBookSpec)

/-- ITS FALSE NEIGHBOUR: 'it returns false'. Refute it at one input. -/
def fnExactValidBookWrong : ChangeSpec := { name := "fnExactValidBook", vars := ["loop.example/g01074/impl.coreForms"], fn := fun _ => fun
  | [d, g1] => { results := [.lit (.bool false)], args := [d], vars := [g1] }
  | _ => none }
def FnExactValidBookWrongFalsely : Prop := fnExactValidBookRow.holds Tryd.pinned (OpenSpec.ofChange fnExactValidBookWrong)

/-- 'laws.FnExactIsStratified': WHATEVER THE INPUT: true; the input reads as it did. -/
def fnExactIsStratifiedSpec : ChangeSpec := { name := "fnExactIsStratified", vars := ["loop.example/g01074/impl.coreForms"], fn := fun _ => fun
  | [d, g1] => { results := [.lit (.bool true)], args := [d], vars := [g1] }
  | _ => none }
def fnExactIsStratifiedRow : OpenClaim := { program := "ytfbgkbgoooepmaadoor", sum := "629ba375aeecd2036ea9c8a247f1f0f0d10ce3d8c5b0f46ec883e1ad11cca6e6", func := "loop.example/g01074/laws.FnExactIsStratified", spec := "fnExactIsStratified", unfollowed := true, recurses := true, named := ["loop.example/g01074/impl.coreForms"], loops := true, apart := false, laid := [("loop.example/g01074/impl.coreForms", laid_loop_example_g01074_impl_coreForms)] }
def FnExactIsStratifiedSaid : Prop := fnExactIsStratifiedRow.holds Tryd.pinned (OpenSpec.ofChange fnExactIsStratifiedSpec)

/-- ITS FALSE NEIGHBOUR: 'it returns false'. Refute it at one input. -/
def fnExactIsStratifiedWrong : ChangeSpec := { name := "fnExactIsStratified", vars := ["loop.example/g01074/impl.coreForms"], fn := fun _ => fun
  | [d, g1] => { results := [.lit (.bool false)], args := [d], vars := [g1] }
  | _ => none }
def FnExactIsStratifiedWrongFalsely : Prop := fnExactIsStratifiedRow.holds Tryd.pinned (OpenSpec.ofChange fnExactIsStratifiedWrong)

/-- 'laws.FnExactShiftCore': WHATEVER THE INPUT: true; the input reads as it did. -/
def fnExactShiftCoreSpec : ChangeSpec := { name := "fnExactShiftCore", vars := ["loop.example/g01074/impl.coreForms"], fn := fun _ => fun
  | [d1, d2, d3, g1] => { results := [.lit (.bool true)], args := [d1, d2, d3], vars := [g1] }
  | _ => none }
def fnExactShiftCoreRow : OpenClaim := { program := "ytfbgkbgoooepmaadoor", sum := "629ba375aeecd2036ea9c8a247f1f0f0d10ce3d8c5b0f46ec883e1ad11cca6e6", func := "loop.example/g01074/laws.FnExactShiftCore", spec := "fnExactShiftCore", unfollowed := true, recurses := true, named := ["loop.example/g01074/impl.coreForms"], loops := true, apart := false, laid := [("loop.example/g01074/impl.coreForms", laid_loop_example_g01074_impl_coreForms)] }
def FnExactShiftCoreSaid : Prop := fnExactShiftCoreRow.holds Tryd.pinned (OpenSpec.ofChange fnExactShiftCoreSpec)

/-- ITS FALSE NEIGHBOUR: 'it returns false'. Refute it at one input. -/
def fnExactShiftCoreWrong : ChangeSpec := { name := "fnExactShiftCore", vars := ["loop.example/g01074/impl.coreForms"], fn := fun _ => fun
  | [d1, d2, d3, g1] => { results := [.lit (.bool false)], args := [d1, d2, d3], vars := [g1] }
  | _ => none }
def FnExactShiftCoreWrongFalsely : Prop := fnExactShiftCoreRow.holds Tryd.pinned (OpenSpec.ofChange fnExactShiftCoreWrong)

/-- 'laws.FnExactInstantiateCore': WHATEVER THE INPUT: true; the input reads as it did. -/
def fnExactInstantiateCoreSpec : ChangeSpec := { name := "fnExactInstantiateCore", vars := ["loop.example/g01074/impl.coreForms"], fn := fun _ => fun
  | [d1, d2, g1] => { results := [.lit (.bool true)], args := [d1, d2], vars := [g1] }
  | _ => none }
def fnExactInstantiateCoreRow : OpenClaim := { program := "ytfbgkbgoooepmaadoor", sum := "629ba375aeecd2036ea9c8a247f1f0f0d10ce3d8c5b0f46ec883e1ad11cca6e6", func := "loop.example/g01074/laws.FnExactInstantiateCore", spec := "fnExactInstantiateCore", unfollowed := true, recurses := true, named := ["loop.example/g01074/impl.coreForms"], loops := true, apart := false, laid := [("loop.example/g01074/impl.coreForms", laid_loop_example_g01074_impl_coreForms)] }
def FnExactInstantiateCoreSaid : Prop := fnExactInstantiateCoreRow.holds Tryd.pinned (OpenSpec.ofChange fnExactInstantiateCoreSpec)

/-- ITS FALSE NEIGHBOUR: 'it returns false'. Refute it at one input. -/
def fnExactInstantiateCoreWrong : ChangeSpec := { name := "fnExactInstantiateCore", vars := ["loop.example/g01074/impl.coreForms"], fn := fun _ => fun
  | [d1, d2, g1] => { results := [.lit (.bool false)], args := [d1, d2], vars := [g1] }
  | _ => none }
def FnExactInstantiateCoreWrongFalsely : Prop := fnExactInstantiateCoreRow.holds Tryd.pinned (OpenSpec.ofChange fnExactInstantiateCoreWrong)

/-- 'laws.FnExactEraseCore': WHATEVER THE INPUT: true; the input reads as it did. -/
def fnExactEraseCoreSpec : ChangeSpec := { name := "fnExactEraseCore", vars := ["loop.example/g01074/impl.coreForms"], fn := fun _ => fun
  | [d, g1] => { results := [.lit (.bool true)], args := [d], vars := [g1] }
  | _ => none }
def fnExactEraseCoreRow : OpenClaim := { program := "ytfbgkbgoooepmaadoor", sum := "629ba375aeecd2036ea9c8a247f1f0f0d10ce3d8c5b0f46ec883e1ad11cca6e6", func := "loop.example/g01074/laws.FnExactEraseCore", spec := "fnExactEraseCore", unfollowed := true, recurses := true, named := ["loop.example/g01074/impl.coreForms"], loops := true, apart := false, laid := [("loop.example/g01074/impl.coreForms", laid_loop_example_g01074_impl_coreForms)] }
def FnExactEraseCoreSaid : Prop := fnExactEraseCoreRow.holds Tryd.pinned (OpenSpec.ofChange fnExactEraseCoreSpec)

/-- ITS FALSE NEIGHBOUR: 'it returns false'. Refute it at one input. -/
def fnExactEraseCoreWrong : ChangeSpec := { name := "fnExactEraseCore", vars := ["loop.example/g01074/impl.coreForms"], fn := fun _ => fun
  | [d, g1] => { results := [.lit (.bool false)], args := [d], vars := [g1] }
  | _ => none }
def FnExactEraseCoreWrongFalsely : Prop := fnExactEraseCoreRow.holds Tryd.pinned (OpenSpec.ofChange fnExactEraseCoreWrong)

/-- 'laws.FnExactEraseBook': WHATEVER THE INPUT: true; the input reads as it did. -/
def fnExactEraseBookSpec : ChangeSpec := { name := "fnExactEraseBook", vars := ["loop.example/g01074/impl.coreForms"], fn := fun _ => fun
  | [d, g1] => { results := [.lit (.bool true)], args := [d], vars := [g1] }
  | _ => none }
def fnExactEraseBookRow : OpenClaim := { program := "ytfbgkbgoooepmaadoor", sum := "629ba375aeecd2036ea9c8a247f1f0f0d10ce3d8c5b0f46ec883e1ad11cca6e6", func := "loop.example/g01074/laws.FnExactEraseBook", spec := "fnExactEraseBook", unfollowed := true, recurses := true, named := ["loop.example/g01074/impl.coreForms"], loops := true, apart := false, laid := [("loop.example/g01074/impl.coreForms", laid_loop_example_g01074_impl_coreForms)] }
def FnExactEraseBookSaid : Prop := fnExactEraseBookRow.holds Tryd.pinned (OpenSpec.ofChange fnExactEraseBookSpec)

/-- ITS FALSE NEIGHBOUR: 'it returns false'. Refute it at one input. -/
def fnExactEraseBookWrong : ChangeSpec := { name := "fnExactEraseBook", vars := ["loop.example/g01074/impl.coreForms"], fn := fun _ => fun
  | [d, g1] => { results := [.lit (.bool false)], args := [d], vars := [g1] }
  | _ => none }
def FnExactEraseBookWrongFalsely : Prop := fnExactEraseBookRow.holds Tryd.pinned (OpenSpec.ofChange fnExactEraseBookWrong)

/-- 'laws.FnExactIsNormal': WHATEVER THE INPUT: true; the input reads as it did. -/
def fnExactIsNormalSpec : ChangeSpec := { name := "fnExactIsNormal", vars := ["loop.example/g01074/impl.coreForms"], fn := fun _ => fun
  | [d1, d2, g1] => { results := [.lit (.bool true)], args := [d1, d2], vars := [g1] }
  | _ => none }
def fnExactIsNormalRow : OpenClaim := { program := "ytfbgkbgoooepmaadoor", sum := "629ba375aeecd2036ea9c8a247f1f0f0d10ce3d8c5b0f46ec883e1ad11cca6e6", func := "loop.example/g01074/laws.FnExactIsNormal", spec := "fnExactIsNormal", unfollowed := true, recurses := true, named := ["loop.example/g01074/impl.coreForms"], loops := true, apart := false, laid := [("loop.example/g01074/impl.coreForms", laid_loop_example_g01074_impl_coreForms)] }
def FnExactIsNormalSaid : Prop := fnExactIsNormalRow.holds Tryd.pinned (OpenSpec.ofChange fnExactIsNormalSpec)

/-- ITS FALSE NEIGHBOUR: 'it returns false'. Refute it at one input. -/
def fnExactIsNormalWrong : ChangeSpec := { name := "fnExactIsNormal", vars := ["loop.example/g01074/impl.coreForms"], fn := fun _ => fun
  | [d1, d2, g1] => { results := [.lit (.bool false)], args := [d1, d2], vars := [g1] }
  | _ => none }
def FnExactIsNormalWrongFalsely : Prop := fnExactIsNormalRow.holds Tryd.pinned (OpenSpec.ofChange fnExactIsNormalWrong)

/- THE SECOND FORM. 'bulk': how many values and letters a reading holds, each counted each time it is reached (what is shared counts as often as it is met; a slice's spare places count too). A statement '..UptoSaid' is the law's where the arguments, and the package variables that the reading takes, are together of bulk at most 1048576: NARROWER than '..Said'. Prove '..Said' where nothing that the law and all that it calls make is longer than what came in: it says more and counts as full. Else prove '..UptoSaid'. A law counts once. -/
mutual
def uptoBulk {H : Type} : DataW H → Nat
  | .lit (.string bytes) => bytes.length + 1
  | .lit _ => 1
  | .nil => 1
  | .ptr d => uptoBulk d + 1
  | .slice elems spare => uptoBulkAll elems + uptoBulkAll spare + 1
  | .agg parts => uptoBulkAll parts + 1
  | .iface _ d => uptoBulk d + 1
  | .map entries => uptoBulkEntries entries + 1
  | .held _ => 1
def uptoBulkAll {H : Type} : List (DataW H) → Nat
  | [] => 0
  | d :: r => uptoBulk d + uptoBulkAll r
def uptoBulkEntries {H : Type} : List (Lit × DataW H) → Nat
  | [] => 0
  | x :: r => uptoBulkEntry x + uptoBulkEntries r
def uptoBulkEntry {H : Type} : Lit × DataW H → Nat
  | (.string bytes, d) => bytes.length + uptoBulk d + 1
  | (_, d) => uptoBulk d + 1
 end
def uptoSmall : (H : Type) → List (DataW H) → Bool := fun _ ds => decide (uptoBulkAll ds ≤ 1048576)
def OpenSpec.upto (s : _root_.Go.ChangeSpec) : _root_.Go.OpenSpec := { _root_.Go.OpenSpec.ofChange s with cond := some uptoSmall }

/-- 'laws.FnExactValidCore', WHERE WHAT IT READS IS OF BULK AT MOST 1048576: true; the input reads as it did. -/
def fnExactValidCoreUptoRow : OpenClaim := { program := "ytfbgkbgoooepmaadoor", sum := "629ba375aeecd2036ea9c8a247f1f0f0d10ce3d8c5b0f46ec883e1ad11cca6e6", func := "loop.example/g01074/laws.FnExactValidCore", spec := "fnExactValidCore", unfollowed := true, recurses := true, named := ["loop.example/g01074/impl.coreForms"], loops := true, apart := false, laid := [("loop.example/g01074/impl.coreForms", laid_loop_example_g01074_impl_coreForms)], narrowed := true }
def FnExactValidCoreUptoSaid : Prop := fnExactValidCoreUptoRow.holds Tryd.pinned (OpenSpec.upto fnExactValidCoreSpec)

/-- 'laws.FnExactCoreSize', WHERE WHAT IT READS IS OF BULK AT MOST 1048576: true; the input reads as it did. -/
def fnExactCoreSizeUptoRow : OpenClaim := { program := "ytfbgkbgoooepmaadoor", sum := "629ba375aeecd2036ea9c8a247f1f0f0d10ce3d8c5b0f46ec883e1ad11cca6e6", func := "loop.example/g01074/laws.FnExactCoreSize", spec := "fnExactCoreSize", unfollowed := true, recurses := true, named := ["loop.example/g01074/impl.coreForms"], loops := true, apart := false, laid := [("loop.example/g01074/impl.coreForms", laid_loop_example_g01074_impl_coreForms)], narrowed := true }
def FnExactCoreSizeUptoSaid : Prop := fnExactCoreSizeUptoRow.holds Tryd.pinned (OpenSpec.upto fnExactCoreSizeSpec)

/-- 'laws.FnExactIsErased', WHERE WHAT IT READS IS OF BULK AT MOST 1048576: true; the input reads as it did. -/
def fnExactIsErasedUptoRow : OpenClaim := { program := "ytfbgkbgoooepmaadoor", sum := "629ba375aeecd2036ea9c8a247f1f0f0d10ce3d8c5b0f46ec883e1ad11cca6e6", func := "loop.example/g01074/laws.FnExactIsErased", spec := "fnExactIsErased", unfollowed := true, recurses := true, named := ["loop.example/g01074/impl.coreForms"], loops := true, apart := false, laid := [("loop.example/g01074/impl.coreForms", laid_loop_example_g01074_impl_coreForms)], narrowed := true }
def FnExactIsErasedUptoSaid : Prop := fnExactIsErasedUptoRow.holds Tryd.pinned (OpenSpec.upto fnExactIsErasedSpec)

/-- 'laws.FnExactIsClosed', WHERE WHAT IT READS IS OF BULK AT MOST 1048576: true; the input reads as it did. -/
def fnExactIsClosedUptoRow : OpenClaim := { program := "ytfbgkbgoooepmaadoor", sum := "629ba375aeecd2036ea9c8a247f1f0f0d10ce3d8c5b0f46ec883e1ad11cca6e6", func := "loop.example/g01074/laws.FnExactIsClosed", spec := "fnExactIsClosed", unfollowed := true, recurses := true, named := ["loop.example/g01074/impl.coreForms"], loops := true, apart := false, laid := [("loop.example/g01074/impl.coreForms", laid_loop_example_g01074_impl_coreForms)], narrowed := true }
def FnExactIsClosedUptoSaid : Prop := fnExactIsClosedUptoRow.holds Tryd.pinned (OpenSpec.upto fnExactIsClosedSpec)

/-- 'laws.FnExactCountVar', WHERE WHAT IT READS IS OF BULK AT MOST 1048576: true; the input reads as it did. -/
def fnExactCountVarUptoRow : OpenClaim := { program := "ytfbgkbgoooepmaadoor", sum := "629ba375aeecd2036ea9c8a247f1f0f0d10ce3d8c5b0f46ec883e1ad11cca6e6", func := "loop.example/g01074/laws.FnExactCountVar", spec := "fnExactCountVar", unfollowed := true, recurses := true, named := ["loop.example/g01074/impl.coreForms"], loops := true, apart := false, laid := [("loop.example/g01074/impl.coreForms", laid_loop_example_g01074_impl_coreForms)], narrowed := true }
def FnExactCountVarUptoSaid : Prop := fnExactCountVarUptoRow.holds Tryd.pinned (OpenSpec.upto fnExactCountVarSpec)

/-- 'laws.FnExactValidBook', WHERE WHAT IT READS IS OF BULK AT MOST 1048576: true; the input reads as it did. -/
def fnExactValidBookUptoRow : OpenClaim := { program := "ytfbgkbgoooepmaadoor", sum := "629ba375aeecd2036ea9c8a247f1f0f0d10ce3d8c5b0f46ec883e1ad11cca6e6", func := "loop.example/g01074/laws.FnExactValidBook", spec := "fnExactValidBook", unfollowed := true, recurses := true, named := ["loop.example/g01074/impl.coreForms"], loops := true, apart := false, laid := [("loop.example/g01074/impl.coreForms", laid_loop_example_g01074_impl_coreForms)], narrowed := true }
def FnExactValidBookUptoSaid : Prop := fnExactValidBookUptoRow.holds Tryd.pinned (OpenSpec.upto fnExactValidBookSpec)

/-- 'laws.FnExactIsStratified', WHERE WHAT IT READS IS OF BULK AT MOST 1048576: true; the input reads as it did. -/
def fnExactIsStratifiedUptoRow : OpenClaim := { program := "ytfbgkbgoooepmaadoor", sum := "629ba375aeecd2036ea9c8a247f1f0f0d10ce3d8c5b0f46ec883e1ad11cca6e6", func := "loop.example/g01074/laws.FnExactIsStratified", spec := "fnExactIsStratified", unfollowed := true, recurses := true, named := ["loop.example/g01074/impl.coreForms"], loops := true, apart := false, laid := [("loop.example/g01074/impl.coreForms", laid_loop_example_g01074_impl_coreForms)], narrowed := true }
def FnExactIsStratifiedUptoSaid : Prop := fnExactIsStratifiedUptoRow.holds Tryd.pinned (OpenSpec.upto fnExactIsStratifiedSpec)

/-- 'laws.FnExactShiftCore', WHERE WHAT IT READS IS OF BULK AT MOST 1048576: true; the input reads as it did. -/
def fnExactShiftCoreUptoRow : OpenClaim := { program := "ytfbgkbgoooepmaadoor", sum := "629ba375aeecd2036ea9c8a247f1f0f0d10ce3d8c5b0f46ec883e1ad11cca6e6", func := "loop.example/g01074/laws.FnExactShiftCore", spec := "fnExactShiftCore", unfollowed := true, recurses := true, named := ["loop.example/g01074/impl.coreForms"], loops := true, apart := false, laid := [("loop.example/g01074/impl.coreForms", laid_loop_example_g01074_impl_coreForms)], narrowed := true }
def FnExactShiftCoreUptoSaid : Prop := fnExactShiftCoreUptoRow.holds Tryd.pinned (OpenSpec.upto fnExactShiftCoreSpec)

/-- 'laws.FnExactInstantiateCore', WHERE WHAT IT READS IS OF BULK AT MOST 1048576: true; the input reads as it did. -/
def fnExactInstantiateCoreUptoRow : OpenClaim := { program := "ytfbgkbgoooepmaadoor", sum := "629ba375aeecd2036ea9c8a247f1f0f0d10ce3d8c5b0f46ec883e1ad11cca6e6", func := "loop.example/g01074/laws.FnExactInstantiateCore", spec := "fnExactInstantiateCore", unfollowed := true, recurses := true, named := ["loop.example/g01074/impl.coreForms"], loops := true, apart := false, laid := [("loop.example/g01074/impl.coreForms", laid_loop_example_g01074_impl_coreForms)], narrowed := true }
def FnExactInstantiateCoreUptoSaid : Prop := fnExactInstantiateCoreUptoRow.holds Tryd.pinned (OpenSpec.upto fnExactInstantiateCoreSpec)

/-- 'laws.FnExactEraseCore', WHERE WHAT IT READS IS OF BULK AT MOST 1048576: true; the input reads as it did. -/
def fnExactEraseCoreUptoRow : OpenClaim := { program := "ytfbgkbgoooepmaadoor", sum := "629ba375aeecd2036ea9c8a247f1f0f0d10ce3d8c5b0f46ec883e1ad11cca6e6", func := "loop.example/g01074/laws.FnExactEraseCore", spec := "fnExactEraseCore", unfollowed := true, recurses := true, named := ["loop.example/g01074/impl.coreForms"], loops := true, apart := false, laid := [("loop.example/g01074/impl.coreForms", laid_loop_example_g01074_impl_coreForms)], narrowed := true }
def FnExactEraseCoreUptoSaid : Prop := fnExactEraseCoreUptoRow.holds Tryd.pinned (OpenSpec.upto fnExactEraseCoreSpec)

/-- 'laws.FnExactEraseBook', WHERE WHAT IT READS IS OF BULK AT MOST 1048576: true; the input reads as it did. -/
def fnExactEraseBookUptoRow : OpenClaim := { program := "ytfbgkbgoooepmaadoor", sum := "629ba375aeecd2036ea9c8a247f1f0f0d10ce3d8c5b0f46ec883e1ad11cca6e6", func := "loop.example/g01074/laws.FnExactEraseBook", spec := "fnExactEraseBook", unfollowed := true, recurses := true, named := ["loop.example/g01074/impl.coreForms"], loops := true, apart := false, laid := [("loop.example/g01074/impl.coreForms", laid_loop_example_g01074_impl_coreForms)], narrowed := true }
def FnExactEraseBookUptoSaid : Prop := fnExactEraseBookUptoRow.holds Tryd.pinned (OpenSpec.upto fnExactEraseBookSpec)

/-- 'laws.FnExactIsNormal', WHERE WHAT IT READS IS OF BULK AT MOST 1048576: true; the input reads as it did. -/
def fnExactIsNormalUptoRow : OpenClaim := { program := "ytfbgkbgoooepmaadoor", sum := "629ba375aeecd2036ea9c8a247f1f0f0d10ce3d8c5b0f46ec883e1ad11cca6e6", func := "loop.example/g01074/laws.FnExactIsNormal", spec := "fnExactIsNormal", unfollowed := true, recurses := true, named := ["loop.example/g01074/impl.coreForms"], loops := true, apart := false, laid := [("loop.example/g01074/impl.coreForms", laid_loop_example_g01074_impl_coreForms)], narrowed := true }
def FnExactIsNormalUptoSaid : Prop := fnExactIsNormalUptoRow.holds Tryd.pinned (OpenSpec.upto fnExactIsNormalSpec)

end Rows
end Go.Proofs.YtfbgkbgoooepmaaDoor
