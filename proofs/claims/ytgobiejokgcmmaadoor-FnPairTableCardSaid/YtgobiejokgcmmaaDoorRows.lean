/-
  NARROWER THAN 'FOR EVERY INPUT', by the rows' own cells (each row's printed sentence says how): FnExactKindName: laid · FnExactKindNamed: laid · FnExactClassName: laid · FnExactPortsOf: laid · FnExactPairClass: laid · FnExactFirstOfPair: laid · FnExactGrowth: laid · FnPairTable: laid.
  DERIVED. THE GIVEN ROWS OF THIS SEAT. 8 by the template 'for every input the law returns true; each argument reads behind the call as it read before'; 0 by the template 'total and deterministic' (their statements: YtgobiejokgcmmaaDoorTotals.lean).
  GIVEN WITH THE SEED: the statements are not yours to turn. If you find one false, say at which input.
  Laid BY PROGRAM, IN A SANDBOX (cutbox-rows.mjs): the forced cells as the released guide's own fill.sh prints them over the translation 0113326e062ce58d… (all of the seat's roots in one cut). By AI agents, Wed Nov 11 2026. No macro, syntax, notation, axiom, sorry.
-/
import Derived.Test.YtgobiejokgcmmaaDoorChecked
import GoSem.Claim
import GoSem.ClaimJoined
import GoSem.ClaimMapViews
import Derived.JoinedTies
import Derived.KernelRfl
namespace Go.Proofs.YtgobiejokgcmmaaDoor
/- THE CELL 'sum', in the pinned program and in every row, IS THE sha256 OF THE DUMP (.gsa) THAT YtgobiejokgcmmaaDoorProg.lean LOADS. Nothing in Lean hashes anything: it is a label: what it is worth is what the hold of that sum in a sandbox is worth. -/
noncomputable def Tryd.pinned : Pinned := { name := "ytgobiejokgcmmaadoor", sum := "0113326e062ce58d5ae972a31ee08d07f75a77a9ab797de0ed8daf7245be5246", checked := Tryd.checked }
namespace Rows
def none {H : Type} : Left H := { results := [], args := [] }

/- WHAT THE LISTED PACKAGE-LEVEL VARIABLES READ AS WHEN THE CALL BEGINS. Each datum BY PROGRAM (the guide's laid-datum.mjs) off the statement by which the dump's own 'gosem.cut.vars' lays the variable. In a bare row this is a premise. The card (YtgobiejokgcmmaaDoorCards.lean) ties it to the program's text. -/
def laid_loop_example_g01074_impl_agentForms {H : Type} : DataW H := .agg [.agg [.lit (.string []), .lit (.int .i64 0)], .agg [.lit (.string [114, 111, 111, 116]), .lit (.int .i64 1)], .agg [.lit (.string [108, 97, 109]), .lit (.int .i64 3)], .agg [.lit (.string [97, 112, 112]), .lit (.int .i64 3)], .agg [.lit (.string [102, 97, 110]), .lit (.int .i64 3)], .agg [.lit (.string [101, 114, 97]), .lit (.int .i64 1)], .agg [.lit (.string [110, 117, 109]), .lit (.int .i64 1)], .agg [.lit (.string [111, 112]), .lit (.int .i64 3)], .agg [.lit (.string [111, 112, 49]), .lit (.int .i64 2)], .agg [.lit (.string [99, 111, 110]), .lit (.int .i64 1)], .agg [.lit (.string [109, 97, 116]), .lit (.int .i64 2)], .agg [.lit (.string [115, 119, 105]), .lit (.int .i64 2)], .agg [.lit (.string [114, 101, 102]), .lit (.int .i64 1)]]
def laid_loop_example_g01074_impl_classNames {H : Type} : DataW H := .agg [.lit (.string []), .lit (.string [98, 101, 116, 97]), .lit (.string [97, 110, 110, 105, 104, 105, 108, 97, 116, 101]), .lit (.string [100, 117, 112, 108, 105, 99, 97, 116, 101]), .lit (.string [101, 114, 97, 115, 101]), .lit (.string [111, 112, 101, 114, 97, 116, 101]), .lit (.string [99, 104, 111, 111, 115, 101]), .lit (.string [101, 120, 112, 97, 110, 100]), .lit (.string [99, 108, 97, 115, 104])]
def laid_loop_example_g01074_impl_pairTable {H : Type} : DataW H := .agg [.agg [.lit (.int .u16 0), .lit (.int .u16 0), .lit (.int .u16 0), .lit (.int .u16 0), .lit (.int .u16 0), .lit (.int .u16 0), .lit (.int .u16 0), .lit (.int .u16 0), .lit (.int .u16 0), .lit (.int .u16 0), .lit (.int .u16 0), .lit (.int .u16 0), .lit (.int .u16 0)], .agg [.lit (.int .u16 0), .lit (.int .u16 0), .lit (.int .u16 8), .lit (.int .u16 0), .lit (.int .u16 0), .lit (.int .u16 0), .lit (.int .u16 0), .lit (.int .u16 0), .lit (.int .u16 0), .lit (.int .u16 0), .lit (.int .u16 0), .lit (.int .u16 0), .lit (.int .u16 0)], .agg [.lit (.int .u16 0), .lit (.int .u16 0), .lit (.int .u16 0), .lit (.int .u16 0), .lit (.int .u16 16), .lit (.int .u16 0), .lit (.int .u16 0), .lit (.int .u16 0), .lit (.int .u16 0), .lit (.int .u16 0), .lit (.int .u16 0), .lit (.int .u16 0), .lit (.int .u16 0)], .agg [.lit (.int .u16 0), .lit (.int .u16 0), .lit (.int .u16 0), .lit (.int .u16 0), .lit (.int .u16 8156), .lit (.int .u16 0), .lit (.int .u16 0), .lit (.int .u16 0), .lit (.int .u16 0), .lit (.int .u16 0), .lit (.int .u16 0), .lit (.int .u16 0), .lit (.int .u16 0)], .agg [.lit (.int .u16 0), .lit (.int .u16 0), .lit (.int .u16 0), .lit (.int .u16 0), .lit (.int .u16 0), .lit (.int .u16 8188), .lit (.int .u16 0), .lit (.int .u16 0), .lit (.int .u16 0), .lit (.int .u16 0), .lit (.int .u16 0), .lit (.int .u16 0), .lit (.int .u16 0)], .agg [.lit (.int .u16 0), .lit (.int .u16 0), .lit (.int .u16 0), .lit (.int .u16 0), .lit (.int .u16 0), .lit (.int .u16 0), .lit (.int .u16 384), .lit (.int .u16 0), .lit (.int .u16 0), .lit (.int .u16 0), .lit (.int .u16 0), .lit (.int .u16 0), .lit (.int .u16 0)], .agg [.lit (.int .u16 0), .lit (.int .u16 0), .lit (.int .u16 0), .lit (.int .u16 0), .lit (.int .u16 0), .lit (.int .u16 0), .lit (.int .u16 2048), .lit (.int .u16 0), .lit (.int .u16 0), .lit (.int .u16 1024), .lit (.int .u16 0), .lit (.int .u16 0), .lit (.int .u16 0)], .agg [.lit (.int .u16 0), .lit (.int .u16 0), .lit (.int .u16 0), .lit (.int .u16 0), .lit (.int .u16 0), .lit (.int .u16 0), .lit (.int .u16 0), .lit (.int .u16 0), .lit (.int .u16 0), .lit (.int .u16 0), .lit (.int .u16 0), .lit (.int .u16 0), .lit (.int .u16 3464)]]
def laid_loop_example_g01074_impl_growthRules {H : Type} : DataW H := .agg [.agg [.lit (.int .i64 0), .lit (.int .i64 0), .lit (.int .i64 0)], .agg [.lit (.int .i64 0), .lit (.int .i64 0), .lit (.int .i64 (-2))], .agg [.lit (.int .i64 0), .lit (.int .i64 0), .lit (.int .i64 (-2))], .agg [.lit (.int .i64 0), .lit (.int .i64 3), .lit (.int .i64 0)], .agg [.lit (.int .i64 0), .lit (.int .i64 3), .lit (.int .i64 (-2))], .agg [.lit (.int .i64 0), .lit (.int .i64 0), .lit (.int .i64 (-1))], .agg [.lit (.int .i64 0), .lit (.int .i64 3), .lit (.int .i64 (-1))], .agg [.lit (.int .i64 2), .lit (.int .i64 600), .lit (.int .i64 (-2))]]

/-- 'laws.FnExactKindName': WHATEVER THE INPUT: true; the input reads as it did. -/
def fnExactKindNameSpec : ChangeSpec := { name := "fnExactKindName", vars := ["loop.example/g01074/impl.agentForms"], fn := fun _ => fun
  | [d, g1] => { results := [.lit (.bool true)], args := [d], vars := [g1] }
  | _ => none }
def fnExactKindNameRow : OpenClaim := { program := "ytgobiejokgcmmaadoor", sum := "0113326e062ce58d5ae972a31ee08d07f75a77a9ab797de0ed8daf7245be5246", func := "loop.example/g01074/laws.FnExactKindName", spec := "fnExactKindName", named := ["loop.example/g01074/impl.agentForms"], apart := false, laid := [("loop.example/g01074/impl.agentForms", laid_loop_example_g01074_impl_agentForms)] }
def FnExactKindNameSaid : Prop := fnExactKindNameRow.holds Tryd.pinned (OpenSpec.ofChange fnExactKindNameSpec)

/-- ITS FALSE NEIGHBOUR: 'it returns false'. Refute it at one input. -/
def fnExactKindNameWrong : ChangeSpec := { name := "fnExactKindName", vars := ["loop.example/g01074/impl.agentForms"], fn := fun _ => fun
  | [d, g1] => { results := [.lit (.bool false)], args := [d], vars := [g1] }
  | _ => none }
def FnExactKindNameWrongFalsely : Prop := fnExactKindNameRow.holds Tryd.pinned (OpenSpec.ofChange fnExactKindNameWrong)

/-- 'laws.FnExactKindNamed': WHATEVER THE INPUT: true; the input reads as it did. -/
def fnExactKindNamedSpec : ChangeSpec := { name := "fnExactKindNamed", vars := ["loop.example/g01074/impl.agentForms"], fn := fun _ => fun
  | [d, g1] => { results := [.lit (.bool true)], args := [d], vars := [g1] }
  | _ => none }
def fnExactKindNamedRow : OpenClaim := { program := "ytgobiejokgcmmaadoor", sum := "0113326e062ce58d5ae972a31ee08d07f75a77a9ab797de0ed8daf7245be5246", func := "loop.example/g01074/laws.FnExactKindNamed", spec := "fnExactKindNamed", named := ["loop.example/g01074/impl.agentForms"], apart := false, laid := [("loop.example/g01074/impl.agentForms", laid_loop_example_g01074_impl_agentForms)] }
def FnExactKindNamedSaid : Prop := fnExactKindNamedRow.holds Tryd.pinned (OpenSpec.ofChange fnExactKindNamedSpec)

/-- ITS FALSE NEIGHBOUR: 'it returns false'. Refute it at one input. -/
def fnExactKindNamedWrong : ChangeSpec := { name := "fnExactKindNamed", vars := ["loop.example/g01074/impl.agentForms"], fn := fun _ => fun
  | [d, g1] => { results := [.lit (.bool false)], args := [d], vars := [g1] }
  | _ => none }
def FnExactKindNamedWrongFalsely : Prop := fnExactKindNamedRow.holds Tryd.pinned (OpenSpec.ofChange fnExactKindNamedWrong)

/-- 'laws.FnExactClassName': WHATEVER THE INPUT: true; the input reads as it did. -/
def fnExactClassNameSpec : ChangeSpec := { name := "fnExactClassName", vars := ["loop.example/g01074/impl.classNames"], fn := fun _ => fun
  | [d, g1] => { results := [.lit (.bool true)], args := [d], vars := [g1] }
  | _ => none }
def fnExactClassNameRow : OpenClaim := { program := "ytgobiejokgcmmaadoor", sum := "0113326e062ce58d5ae972a31ee08d07f75a77a9ab797de0ed8daf7245be5246", func := "loop.example/g01074/laws.FnExactClassName", spec := "fnExactClassName", named := ["loop.example/g01074/impl.classNames"], apart := false, laid := [("loop.example/g01074/impl.classNames", laid_loop_example_g01074_impl_classNames)] }
def FnExactClassNameSaid : Prop := fnExactClassNameRow.holds Tryd.pinned (OpenSpec.ofChange fnExactClassNameSpec)

/-- ITS FALSE NEIGHBOUR: 'it returns false'. Refute it at one input. -/
def fnExactClassNameWrong : ChangeSpec := { name := "fnExactClassName", vars := ["loop.example/g01074/impl.classNames"], fn := fun _ => fun
  | [d, g1] => { results := [.lit (.bool false)], args := [d], vars := [g1] }
  | _ => none }
def FnExactClassNameWrongFalsely : Prop := fnExactClassNameRow.holds Tryd.pinned (OpenSpec.ofChange fnExactClassNameWrong)

/-- 'laws.FnExactPortsOf': WHATEVER THE INPUT: true; the input reads as it did. -/
def fnExactPortsOfSpec : ChangeSpec := { name := "fnExactPortsOf", vars := ["loop.example/g01074/impl.agentForms"], fn := fun _ => fun
  | [d1, d2, g1] => { results := [.lit (.bool true)], args := [d1, d2], vars := [g1] }
  | _ => none }
def fnExactPortsOfRow : OpenClaim := { program := "ytgobiejokgcmmaadoor", sum := "0113326e062ce58d5ae972a31ee08d07f75a77a9ab797de0ed8daf7245be5246", func := "loop.example/g01074/laws.FnExactPortsOf", spec := "fnExactPortsOf", named := ["loop.example/g01074/impl.agentForms"], apart := false, laid := [("loop.example/g01074/impl.agentForms", laid_loop_example_g01074_impl_agentForms)] }
def FnExactPortsOfSaid : Prop := fnExactPortsOfRow.holds Tryd.pinned (OpenSpec.ofChange fnExactPortsOfSpec)

/-- ITS FALSE NEIGHBOUR: 'it returns false'. Refute it at one input. -/
def fnExactPortsOfWrong : ChangeSpec := { name := "fnExactPortsOf", vars := ["loop.example/g01074/impl.agentForms"], fn := fun _ => fun
  | [d1, d2, g1] => { results := [.lit (.bool false)], args := [d1, d2], vars := [g1] }
  | _ => none }
def FnExactPortsOfWrongFalsely : Prop := fnExactPortsOfRow.holds Tryd.pinned (OpenSpec.ofChange fnExactPortsOfWrong)

/-- 'laws.FnExactPairClass': WHATEVER THE INPUT: true; the input reads as it did. -/
def fnExactPairClassSpec : ChangeSpec := { name := "fnExactPairClass", vars := ["loop.example/g01074/impl.pairTable"], fn := fun _ => fun
  | [d1, d2, d3, d4, g1] => { results := [.lit (.bool true)], args := [d1, d2, d3, d4], vars := [g1] }
  | _ => none }
def fnExactPairClassRow : OpenClaim := { program := "ytgobiejokgcmmaadoor", sum := "0113326e062ce58d5ae972a31ee08d07f75a77a9ab797de0ed8daf7245be5246", func := "loop.example/g01074/laws.FnExactPairClass", spec := "fnExactPairClass", named := ["loop.example/g01074/impl.pairTable"], apart := false, laid := [("loop.example/g01074/impl.pairTable", laid_loop_example_g01074_impl_pairTable)] }
def FnExactPairClassSaid : Prop := fnExactPairClassRow.holds Tryd.pinned (OpenSpec.ofChange fnExactPairClassSpec)

/-- ITS FALSE NEIGHBOUR: 'it returns false'. Refute it at one input. -/
def fnExactPairClassWrong : ChangeSpec := { name := "fnExactPairClass", vars := ["loop.example/g01074/impl.pairTable"], fn := fun _ => fun
  | [d1, d2, d3, d4, g1] => { results := [.lit (.bool false)], args := [d1, d2, d3, d4], vars := [g1] }
  | _ => none }
def FnExactPairClassWrongFalsely : Prop := fnExactPairClassRow.holds Tryd.pinned (OpenSpec.ofChange fnExactPairClassWrong)

/-- 'laws.FnExactFirstOfPair': WHATEVER THE INPUT: true; the input reads as it did. -/
def fnExactFirstOfPairSpec : ChangeSpec := { name := "fnExactFirstOfPair", vars := ["loop.example/g01074/impl.pairTable"], fn := fun _ => fun
  | [d1, d2, d3, d4, g1] => { results := [.lit (.bool true)], args := [d1, d2, d3, d4], vars := [g1] }
  | _ => none }
def fnExactFirstOfPairRow : OpenClaim := { program := "ytgobiejokgcmmaadoor", sum := "0113326e062ce58d5ae972a31ee08d07f75a77a9ab797de0ed8daf7245be5246", func := "loop.example/g01074/laws.FnExactFirstOfPair", spec := "fnExactFirstOfPair", named := ["loop.example/g01074/impl.pairTable"], apart := false, laid := [("loop.example/g01074/impl.pairTable", laid_loop_example_g01074_impl_pairTable)] }
def FnExactFirstOfPairSaid : Prop := fnExactFirstOfPairRow.holds Tryd.pinned (OpenSpec.ofChange fnExactFirstOfPairSpec)

/-- ITS FALSE NEIGHBOUR: 'it returns false'. Refute it at one input. -/
def fnExactFirstOfPairWrong : ChangeSpec := { name := "fnExactFirstOfPair", vars := ["loop.example/g01074/impl.pairTable"], fn := fun _ => fun
  | [d1, d2, d3, d4, g1] => { results := [.lit (.bool false)], args := [d1, d2, d3, d4], vars := [g1] }
  | _ => none }
def FnExactFirstOfPairWrongFalsely : Prop := fnExactFirstOfPairRow.holds Tryd.pinned (OpenSpec.ofChange fnExactFirstOfPairWrong)

/-- 'laws.FnExactGrowth': WHATEVER THE INPUT: true; the input reads as it did. -/
def fnExactGrowthSpec : ChangeSpec := { name := "fnExactGrowth", vars := ["loop.example/g01074/impl.growthRules"], fn := fun _ => fun
  | [d1, d2, g1] => { results := [.lit (.bool true)], args := [d1, d2], vars := [g1] }
  | _ => none }
def fnExactGrowthRow : OpenClaim := { program := "ytgobiejokgcmmaadoor", sum := "0113326e062ce58d5ae972a31ee08d07f75a77a9ab797de0ed8daf7245be5246", func := "loop.example/g01074/laws.FnExactGrowth", spec := "fnExactGrowth", named := ["loop.example/g01074/impl.growthRules"], apart := false, laid := [("loop.example/g01074/impl.growthRules", laid_loop_example_g01074_impl_growthRules)] }
def FnExactGrowthSaid : Prop := fnExactGrowthRow.holds Tryd.pinned (OpenSpec.ofChange fnExactGrowthSpec)

/-- ITS FALSE NEIGHBOUR: 'it returns false'. Refute it at one input. -/
def fnExactGrowthWrong : ChangeSpec := { name := "fnExactGrowth", vars := ["loop.example/g01074/impl.growthRules"], fn := fun _ => fun
  | [d1, d2, g1] => { results := [.lit (.bool false)], args := [d1, d2], vars := [g1] }
  | _ => none }
def FnExactGrowthWrongFalsely : Prop := fnExactGrowthRow.holds Tryd.pinned (OpenSpec.ofChange fnExactGrowthWrong)

/-- 'laws.FnPairTable': WHATEVER THE INPUT: true; the input reads as it did. -/
def fnPairTableSpec : ChangeSpec := { name := "fnPairTable", vars := ["loop.example/g01074/impl.pairTable"], fn := fun _ => fun
  | [d, g1] => { results := [.lit (.bool true)], args := [d], vars := [g1] }
  | _ => none }
def fnPairTableRow : OpenClaim := { program := "ytgobiejokgcmmaadoor", sum := "0113326e062ce58d5ae972a31ee08d07f75a77a9ab797de0ed8daf7245be5246", func := "loop.example/g01074/laws.FnPairTable", spec := "fnPairTable", named := ["loop.example/g01074/impl.pairTable"], apart := false, laid := [("loop.example/g01074/impl.pairTable", laid_loop_example_g01074_impl_pairTable)] }
def FnPairTableSaid : Prop := fnPairTableRow.holds Tryd.pinned (OpenSpec.ofChange fnPairTableSpec)

/-- ITS FALSE NEIGHBOUR: 'it returns false'. Refute it at one input. -/
def fnPairTableWrong : ChangeSpec := { name := "fnPairTable", vars := ["loop.example/g01074/impl.pairTable"], fn := fun _ => fun
  | [d, g1] => { results := [.lit (.bool false)], args := [d], vars := [g1] }
  | _ => none }
def FnPairTableWrongFalsely : Prop := fnPairTableRow.holds Tryd.pinned (OpenSpec.ofChange fnPairTableWrong)

/- THE SECOND FORM. 'bulk': how many values and letters a reading holds, each counted each time it is reached (what is shared counts as often as it is met; a slice's spare places count too). A statement '..UptoSaid' is the law's where the arguments, and the package variables that the reading takes, are together of bulk at most 1048576: NARROWER than '..Said'. Prove '..Said' where nothing that the law and all that it calls make is longer than what came in: it says more and counts as full. Else prove '..UptoSaid'. A law counts once. -/
mutual
def uptoBulk {H : Type} : DataW H → Nat
  | .lit (.string bytes) => bytes.length + 1
  | .lit _ => 1
  | .nil => 1
  | .ptr d => uptoBulk d + 1
  | .slice elems spare => uptoBulkAll elems + uptoBulkAll spare + 1
  | .agg parts => uptoBulkAll parts + 1
  | .iface _ d => uptoBulk d + 1
  | .map entries => uptoBulkEntries entries + 1
  | .held _ => 1
def uptoBulkAll {H : Type} : List (DataW H) → Nat
  | [] => 0
  | d :: r => uptoBulk d + uptoBulkAll r
def uptoBulkEntries {H : Type} : List (Lit × DataW H) → Nat
  | [] => 0
  | x :: r => uptoBulkEntry x + uptoBulkEntries r
def uptoBulkEntry {H : Type} : Lit × DataW H → Nat
  | (.string bytes, d) => bytes.length + uptoBulk d + 1
  | (_, d) => uptoBulk d + 1
 end
def uptoSmall : (H : Type) → List (DataW H) → Bool := fun _ ds => decide (uptoBulkAll ds ≤ 1048576)
def OpenSpec.upto (s : _root_.Go.ChangeSpec) : _root_.Go.OpenSpec := { _root_.Go.OpenSpec.ofChange s with cond := some uptoSmall }

/-- 'laws.FnExactKindName', WHERE WHAT IT READS IS OF BULK AT MOST 1048576: true; the input reads as it did. -/
def fnExactKindNameUptoRow : OpenClaim := { program := "ytgobiejokgcmmaadoor", sum := "0113326e062ce58d5ae972a31ee08d07f75a77a9ab797de0ed8daf7245be5246", func := "loop.example/g01074/laws.FnExactKindName", spec := "fnExactKindName", named := ["loop.example/g01074/impl.agentForms"], apart := false, laid := [("loop.example/g01074/impl.agentForms", laid_loop_example_g01074_impl_agentForms)], narrowed := true }
def FnExactKindNameUptoSaid : Prop := fnExactKindNameUptoRow.holds Tryd.pinned (OpenSpec.upto fnExactKindNameSpec)

/-- 'laws.FnExactKindNamed', WHERE WHAT IT READS IS OF BULK AT MOST 1048576: true; the input reads as it did. -/
def fnExactKindNamedUptoRow : OpenClaim := { program := "ytgobiejokgcmmaadoor", sum := "0113326e062ce58d5ae972a31ee08d07f75a77a9ab797de0ed8daf7245be5246", func := "loop.example/g01074/laws.FnExactKindNamed", spec := "fnExactKindNamed", named := ["loop.example/g01074/impl.agentForms"], apart := false, laid := [("loop.example/g01074/impl.agentForms", laid_loop_example_g01074_impl_agentForms)], narrowed := true }
def FnExactKindNamedUptoSaid : Prop := fnExactKindNamedUptoRow.holds Tryd.pinned (OpenSpec.upto fnExactKindNamedSpec)

/-- 'laws.FnExactClassName', WHERE WHAT IT READS IS OF BULK AT MOST 1048576: true; the input reads as it did. -/
def fnExactClassNameUptoRow : OpenClaim := { program := "ytgobiejokgcmmaadoor", sum := "0113326e062ce58d5ae972a31ee08d07f75a77a9ab797de0ed8daf7245be5246", func := "loop.example/g01074/laws.FnExactClassName", spec := "fnExactClassName", named := ["loop.example/g01074/impl.classNames"], apart := false, laid := [("loop.example/g01074/impl.classNames", laid_loop_example_g01074_impl_classNames)], narrowed := true }
def FnExactClassNameUptoSaid : Prop := fnExactClassNameUptoRow.holds Tryd.pinned (OpenSpec.upto fnExactClassNameSpec)

/-- 'laws.FnExactPortsOf', WHERE WHAT IT READS IS OF BULK AT MOST 1048576: true; the input reads as it did. -/
def fnExactPortsOfUptoRow : OpenClaim := { program := "ytgobiejokgcmmaadoor", sum := "0113326e062ce58d5ae972a31ee08d07f75a77a9ab797de0ed8daf7245be5246", func := "loop.example/g01074/laws.FnExactPortsOf", spec := "fnExactPortsOf", named := ["loop.example/g01074/impl.agentForms"], apart := false, laid := [("loop.example/g01074/impl.agentForms", laid_loop_example_g01074_impl_agentForms)], narrowed := true }
def FnExactPortsOfUptoSaid : Prop := fnExactPortsOfUptoRow.holds Tryd.pinned (OpenSpec.upto fnExactPortsOfSpec)

/-- 'laws.FnExactPairClass', WHERE WHAT IT READS IS OF BULK AT MOST 1048576: true; the input reads as it did. -/
def fnExactPairClassUptoRow : OpenClaim := { program := "ytgobiejokgcmmaadoor", sum := "0113326e062ce58d5ae972a31ee08d07f75a77a9ab797de0ed8daf7245be5246", func := "loop.example/g01074/laws.FnExactPairClass", spec := "fnExactPairClass", named := ["loop.example/g01074/impl.pairTable"], apart := false, laid := [("loop.example/g01074/impl.pairTable", laid_loop_example_g01074_impl_pairTable)], narrowed := true }
def FnExactPairClassUptoSaid : Prop := fnExactPairClassUptoRow.holds Tryd.pinned (OpenSpec.upto fnExactPairClassSpec)

/-- 'laws.FnExactFirstOfPair', WHERE WHAT IT READS IS OF BULK AT MOST 1048576: true; the input reads as it did. -/
def fnExactFirstOfPairUptoRow : OpenClaim := { program := "ytgobiejokgcmmaadoor", sum := "0113326e062ce58d5ae972a31ee08d07f75a77a9ab797de0ed8daf7245be5246", func := "loop.example/g01074/laws.FnExactFirstOfPair", spec := "fnExactFirstOfPair", named := ["loop.example/g01074/impl.pairTable"], apart := false, laid := [("loop.example/g01074/impl.pairTable", laid_loop_example_g01074_impl_pairTable)], narrowed := true }
def FnExactFirstOfPairUptoSaid : Prop := fnExactFirstOfPairUptoRow.holds Tryd.pinned (OpenSpec.upto fnExactFirstOfPairSpec)

/-- 'laws.FnExactGrowth', WHERE WHAT IT READS IS OF BULK AT MOST 1048576: true; the input reads as it did. -/
def fnExactGrowthUptoRow : OpenClaim := { program := "ytgobiejokgcmmaadoor", sum := "0113326e062ce58d5ae972a31ee08d07f75a77a9ab797de0ed8daf7245be5246", func := "loop.example/g01074/laws.FnExactGrowth", spec := "fnExactGrowth", named := ["loop.example/g01074/impl.growthRules"], apart := false, laid := [("loop.example/g01074/impl.growthRules", laid_loop_example_g01074_impl_growthRules)], narrowed := true }
def FnExactGrowthUptoSaid : Prop := fnExactGrowthUptoRow.holds Tryd.pinned (OpenSpec.upto fnExactGrowthSpec)

/-- 'laws.FnPairTable', WHERE WHAT IT READS IS OF BULK AT MOST 1048576: true; the input reads as it did. -/
def fnPairTableUptoRow : OpenClaim := { program := "ytgobiejokgcmmaadoor", sum := "0113326e062ce58d5ae972a31ee08d07f75a77a9ab797de0ed8daf7245be5246", func := "loop.example/g01074/laws.FnPairTable", spec := "fnPairTable", named := ["loop.example/g01074/impl.pairTable"], apart := false, laid := [("loop.example/g01074/impl.pairTable", laid_loop_example_g01074_impl_pairTable)], narrowed := true }
def FnPairTableUptoSaid : Prop := fnPairTableUptoRow.holds Tryd.pinned (OpenSpec.upto fnPairTableSpec)

end Rows
end Go.Proofs.YtgobiejokgcmmaaDoor
