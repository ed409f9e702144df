/-
  NARROWER THAN 'FOR EVERY INPUT', by the rows' own cells (each row's printed sentence says how): FnExactMainDef: loops, laid · FnExactUsesOf: loops, laid · FnExactLevelsOf: loops, laid · FnExactBoxDepth: loops, laid.
  DERIVED. THE GIVEN ROWS OF THIS SEAT. 4 by the template 'for every input the law returns true; each argument reads behind the call as it read before'; 0 by the template 'total and deterministic' (their statements: YtkfplnnncfkjfaaDoorTotals.lean).
  GIVEN WITH THE SEED: the statements are not yours to turn. If you find one false, say at which input.
  Laid BY PROGRAM, IN A SANDBOX (cutbox-rows.mjs): the forced cells as the released guide's own fill.sh prints them over the translation 015b4d8a07c486aa… (all of the seat's roots in one cut). By AI agents, Wed Nov 11 2026. No macro, syntax, notation, axiom, sorry.
-/
import Derived.Test.YtkfplnnncfkjfaaDoorChecked
import GoSem.Claim
import GoSem.ClaimJoined
import GoSem.ClaimMapViews
import Derived.JoinedTies
import Derived.KernelRfl
namespace Go.Proofs.YtkfplnnncfkjfaaDoor
/- THE CELL 'sum', in the pinned program and in every row, IS THE sha256 OF THE DUMP (.gsa) THAT YtkfplnnncfkjfaaDoorProg.lean LOADS. Nothing in Lean hashes anything: it is a label: what it is worth is what the hold of that sum in a sandbox is worth. -/
noncomputable def Tryd.pinned : Pinned := { name := "ytkfplnnncfkjfaadoor", sum := "015b4d8a07c486aa2e7b6ed834f5a0c322fd7052a9eba6da85c585499e6b4384", checked := Tryd.checked }
namespace Rows
def none {H : Type} : Left H := { results := [], args := [] }

/- WHAT THE LISTED PACKAGE-LEVEL VARIABLES READ AS WHEN THE CALL BEGINS. Each datum BY PROGRAM (the guide's laid-datum.mjs) off the statement by which the dump's own 'gosem.cut.vars' lays the variable. In a bare row this is a premise. The card (YtkfplnnncfkjfaaDoorCards.lean) ties it to the program's text. -/
def laid_loop_example_g01074_impl_nodeForms {H : Type} : DataW H := .agg [.agg [.lit (.int .i64 0), .lit (.int .i64 0), .lit (.int .i64 0), .lit (.bool false), .lit (.int .i64 0), .lit (.int .i64 0), .lit (.int .i64 0)], .agg [.lit (.int .i64 0), .lit (.int .i64 0), .lit (.int .i64 1), .lit (.bool false), .lit (.int .i64 0), .lit (.int .i64 0), .lit (.int .i64 0)], .agg [.lit (.int .i64 (-2147483648)), .lit (.int .i64 2147483647), .lit (.int .i64 0), .lit (.bool false), .lit (.int .i64 0), .lit (.int .i64 0), .lit (.int .i64 0)], .agg [.lit (.int .i64 1), .lit (.int .i64 6), .lit (.int .i64 0), .lit (.bool false), .lit (.int .i64 0), .lit (.int .i64 2), .lit (.int .i64 2)], .agg [.lit (.int .i64 0), .lit (.int .i64 0), .lit (.int .i64 1), .lit (.bool true), .lit (.int .i64 0), .lit (.int .i64 1), .lit (.int .i64 1)], .agg [.lit (.int .i64 0), .lit (.int .i64 0), .lit (.int .i64 0), .lit (.bool false), .lit (.int .i64 0), .lit (.int .i64 2), .lit (.int .i64 2)], .agg [.lit (.int .i64 0), .lit (.int .i64 0), .lit (.int .i64 0), .lit (.bool false), .lit (.int .i64 0), .lit (.int .i64 1), .lit (.int .i64 1)], .agg [.lit (.int .i64 0), .lit (.int .i64 0), .lit (.int .i64 1), .lit (.bool false), .lit (.int .i64 0), .lit (.int .i64 2), .lit (.int .i64 2)], .agg [.lit (.int .i64 0), .lit (.int .i64 0), .lit (.int .i64 2), .lit (.bool false), .lit (.int .i64 0), .lit (.int .i64 0), .lit (.int .i64 3)], .agg [.lit (.int .i64 0), .lit (.int .i64 0), .lit (.int .i64 0), .lit (.bool false), .lit (.int .i64 0), .lit (.int .i64 2), .lit (.int .i64 5)], .agg [.lit (.int .i64 0), .lit (.int .i64 0), .lit (.int .i64 2), .lit (.bool false), .lit (.int .i64 3), .lit (.int .i64 1), .lit (.int .i64 1)], .agg [.lit (.int .i64 0), .lit (.int .i64 0), .lit (.int .i64 0), .lit (.bool false), .lit (.int .i64 0), .lit (.int .i64 3), .lit (.int .i64 3)]]

/-- 'laws.FnExactMainDef': WHATEVER THE INPUT: true; the input reads as it did. -/
def fnExactMainDefSpec : ChangeSpec := { name := "fnExactMainDef", vars := ["loop.example/g01074/impl.nodeForms"], fn := fun _ => fun
  | [d, g1] => { results := [.lit (.bool true)], args := [d], vars := [g1] }
  | _ => none }
def fnExactMainDefRow : OpenClaim := { program := "ytkfplnnncfkjfaadoor", sum := "015b4d8a07c486aa2e7b6ed834f5a0c322fd7052a9eba6da85c585499e6b4384", func := "loop.example/g01074/laws.FnExactMainDef", spec := "fnExactMainDef", unfollowed := true, recurses := true, named := ["loop.example/g01074/impl.nodeForms"], loops := true, apart := false, laid := [("loop.example/g01074/impl.nodeForms", laid_loop_example_g01074_impl_nodeForms)] }
def FnExactMainDefSaid : Prop := fnExactMainDefRow.holds Tryd.pinned (OpenSpec.ofChange fnExactMainDefSpec)

/-- ITS FALSE NEIGHBOUR: 'it returns false'. Refute it at one input. -/
def fnExactMainDefWrong : ChangeSpec := { name := "fnExactMainDef", vars := ["loop.example/g01074/impl.nodeForms"], fn := fun _ => fun
  | [d, g1] => { results := [.lit (.bool false)], args := [d], vars := [g1] }
  | _ => none }
def FnExactMainDefWrongFalsely : Prop := fnExactMainDefRow.holds Tryd.pinned (OpenSpec.ofChange fnExactMainDefWrong)

/-- 'laws.FnExactUsesOf': WHATEVER THE INPUT: true; the input reads as it did. -/
def fnExactUsesOfSpec : ChangeSpec := { name := "fnExactUsesOf", vars := ["loop.example/g01074/impl.nodeForms"], fn := fun _ => fun
  | [d1, d2, g1] => { results := [.lit (.bool true)], args := [d1, d2], vars := [g1] }
  | _ => none }
def fnExactUsesOfRow : OpenClaim := { program := "ytkfplnnncfkjfaadoor", sum := "015b4d8a07c486aa2e7b6ed834f5a0c322fd7052a9eba6da85c585499e6b4384", func := "loop.example/g01074/laws.FnExactUsesOf", spec := "fnExactUsesOf", unfollowed := true, recurses := true, named := ["loop.example/g01074/impl.nodeForms"], loops := true, apart := false, laid := [("loop.example/g01074/impl.nodeForms", laid_loop_example_g01074_impl_nodeForms)] }
def FnExactUsesOfSaid : Prop := fnExactUsesOfRow.holds Tryd.pinned (OpenSpec.ofChange fnExactUsesOfSpec)

/-- ITS FALSE NEIGHBOUR: 'it returns false'. Refute it at one input. -/
def fnExactUsesOfWrong : ChangeSpec := { name := "fnExactUsesOf", vars := ["loop.example/g01074/impl.nodeForms"], fn := fun _ => fun
  | [d1, d2, g1] => { results := [.lit (.bool false)], args := [d1, d2], vars := [g1] }
  | _ => none }
def FnExactUsesOfWrongFalsely : Prop := fnExactUsesOfRow.holds Tryd.pinned (OpenSpec.ofChange fnExactUsesOfWrong)

/-- 'laws.FnExactLevelsOf': WHATEVER THE INPUT: true; the input reads as it did. -/
def fnExactLevelsOfSpec : ChangeSpec := { name := "fnExactLevelsOf", vars := ["loop.example/g01074/impl.nodeForms"], fn := fun _ => fun
  | [d1, d2, g1] => { results := [.lit (.bool true)], args := [d1, d2], vars := [g1] }
  | _ => none }
def fnExactLevelsOfRow : OpenClaim := { program := "ytkfplnnncfkjfaadoor", sum := "015b4d8a07c486aa2e7b6ed834f5a0c322fd7052a9eba6da85c585499e6b4384", func := "loop.example/g01074/laws.FnExactLevelsOf", spec := "fnExactLevelsOf", unfollowed := true, recurses := true, named := ["loop.example/g01074/impl.nodeForms"], loops := true, apart := false, laid := [("loop.example/g01074/impl.nodeForms", laid_loop_example_g01074_impl_nodeForms)] }
def FnExactLevelsOfSaid : Prop := fnExactLevelsOfRow.holds Tryd.pinned (OpenSpec.ofChange fnExactLevelsOfSpec)

/-- ITS FALSE NEIGHBOUR: 'it returns false'. Refute it at one input. -/
def fnExactLevelsOfWrong : ChangeSpec := { name := "fnExactLevelsOf", vars := ["loop.example/g01074/impl.nodeForms"], fn := fun _ => fun
  | [d1, d2, g1] => { results := [.lit (.bool false)], args := [d1, d2], vars := [g1] }
  | _ => none }
def FnExactLevelsOfWrongFalsely : Prop := fnExactLevelsOfRow.holds Tryd.pinned (OpenSpec.ofChange fnExactLevelsOfWrong)

/-- 'laws.FnExactBoxDepth': WHATEVER THE INPUT: true; the input reads as it did. -/
def fnExactBoxDepthSpec : ChangeSpec := { name := "fnExactBoxDepth", vars := ["loop.example/g01074/impl.nodeForms"], fn := fun _ => fun
  | [d, g1] => { results := [.lit (.bool true)], args := [d], vars := [g1] }
  | _ => none }
def fnExactBoxDepthRow : OpenClaim := { program := "ytkfplnnncfkjfaadoor", sum := "015b4d8a07c486aa2e7b6ed834f5a0c322fd7052a9eba6da85c585499e6b4384", func := "loop.example/g01074/laws.FnExactBoxDepth", spec := "fnExactBoxDepth", unfollowed := true, recurses := true, named := ["loop.example/g01074/impl.nodeForms"], loops := true, apart := false, laid := [("loop.example/g01074/impl.nodeForms", laid_loop_example_g01074_impl_nodeForms)] }
def FnExactBoxDepthSaid : Prop := fnExactBoxDepthRow.holds Tryd.pinned (OpenSpec.ofChange fnExactBoxDepthSpec)

/-- ITS FALSE NEIGHBOUR: 'it returns false'. Refute it at one input. -/
def fnExactBoxDepthWrong : ChangeSpec := { name := "fnExactBoxDepth", vars := ["loop.example/g01074/impl.nodeForms"], fn := fun _ => fun
  | [d, g1] => { results := [.lit (.bool false)], args := [d], vars := [g1] }
  | _ => none }
def FnExactBoxDepthWrongFalsely : Prop := fnExactBoxDepthRow.holds Tryd.pinned (OpenSpec.ofChange fnExactBoxDepthWrong)

/- THE SECOND FORM. 'bulk': how many values and letters a reading holds, each counted each time it is reached (what is shared counts as often as it is met; a slice's spare places count too). A statement '..UptoSaid' is the law's where the arguments, and the package variables that the reading takes, are together of bulk at most 1048576: NARROWER than '..Said'. Prove '..Said' where nothing that the law and all that it calls make is longer than what came in: it says more and counts as full. Else prove '..UptoSaid'. A law counts once. -/
mutual
def uptoBulk {H : Type} : DataW H → Nat
  | .lit (.string bytes) => bytes.length + 1
  | .lit _ => 1
  | .nil => 1
  | .ptr d => uptoBulk d + 1
  | .slice elems spare => uptoBulkAll elems + uptoBulkAll spare + 1
  | .agg parts => uptoBulkAll parts + 1
  | .iface _ d => uptoBulk d + 1
  | .map entries => uptoBulkEntries entries + 1
  | .held _ => 1
def uptoBulkAll {H : Type} : List (DataW H) → Nat
  | [] => 0
  | d :: r => uptoBulk d + uptoBulkAll r
def uptoBulkEntries {H : Type} : List (Lit × DataW H) → Nat
  | [] => 0
  | x :: r => uptoBulkEntry x + uptoBulkEntries r
def uptoBulkEntry {H : Type} : Lit × DataW H → Nat
  | (.string bytes, d) => bytes.length + uptoBulk d + 1
  | (_, d) => uptoBulk d + 1
 end
def uptoSmall : (H : Type) → List (DataW H) → Bool := fun _ ds => decide (uptoBulkAll ds ≤ 1048576)
def OpenSpec.upto (s : _root_.Go.ChangeSpec) : _root_.Go.OpenSpec := { _root_.Go.OpenSpec.ofChange s with cond := some uptoSmall }

/-- 'laws.FnExactMainDef', WHERE WHAT IT READS IS OF BULK AT MOST 1048576: true; the input reads as it did. -/
def fnExactMainDefUptoRow : OpenClaim := { program := "ytkfplnnncfkjfaadoor", sum := "015b4d8a07c486aa2e7b6ed834f5a0c322fd7052a9eba6da85c585499e6b4384", func := "loop.example/g01074/laws.FnExactMainDef", spec := "fnExactMainDef", unfollowed := true, recurses := true, named := ["loop.example/g01074/impl.nodeForms"], loops := true, apart := false, laid := [("loop.example/g01074/impl.nodeForms", laid_loop_example_g01074_impl_nodeForms)], narrowed := true }
def FnExactMainDefUptoSaid : Prop := fnExactMainDefUptoRow.holds Tryd.pinned (OpenSpec.upto fnExactMainDefSpec)

/-- 'laws.FnExactUsesOf', WHERE WHAT IT READS IS OF BULK AT MOST 1048576: true; the input reads as it did. -/
def fnExactUsesOfUptoRow : OpenClaim := { program := "ytkfplnnncfkjfaadoor", sum := "015b4d8a07c486aa2e7b6ed834f5a0c322fd7052a9eba6da85c585499e6b4384", func := "loop.example/g01074/laws.FnExactUsesOf", spec := "fnExactUsesOf", unfollowed := true, recurses := true, named := ["loop.example/g01074/impl.nodeForms"], loops := true, apart := false, laid := [("loop.example/g01074/impl.nodeForms", laid_loop_example_g01074_impl_nodeForms)], narrowed := true }
def FnExactUsesOfUptoSaid : Prop := fnExactUsesOfUptoRow.holds Tryd.pinned (OpenSpec.upto fnExactUsesOfSpec)

/-- 'laws.FnExactLevelsOf', WHERE WHAT IT READS IS OF BULK AT MOST 1048576: true; the input reads as it did. -/
def fnExactLevelsOfUptoRow : OpenClaim := { program := "ytkfplnnncfkjfaadoor", sum := "015b4d8a07c486aa2e7b6ed834f5a0c322fd7052a9eba6da85c585499e6b4384", func := "loop.example/g01074/laws.FnExactLevelsOf", spec := "fnExactLevelsOf", unfollowed := true, recurses := true, named := ["loop.example/g01074/impl.nodeForms"], loops := true, apart := false, laid := [("loop.example/g01074/impl.nodeForms", laid_loop_example_g01074_impl_nodeForms)], narrowed := true }
def FnExactLevelsOfUptoSaid : Prop := fnExactLevelsOfUptoRow.holds Tryd.pinned (OpenSpec.upto fnExactLevelsOfSpec)

/-- 'laws.FnExactBoxDepth', WHERE WHAT IT READS IS OF BULK AT MOST 1048576: true; the input reads as it did. -/
def fnExactBoxDepthUptoRow : OpenClaim := { program := "ytkfplnnncfkjfaadoor", sum := "015b4d8a07c486aa2e7b6ed834f5a0c322fd7052a9eba6da85c585499e6b4384", func := "loop.example/g01074/laws.FnExactBoxDepth", spec := "fnExactBoxDepth", unfollowed := true, recurses := true, named := ["loop.example/g01074/impl.nodeForms"], loops := true, apart := false, laid := [("loop.example/g01074/impl.nodeForms", laid_loop_example_g01074_impl_nodeForms)], narrowed := true }
def FnExactBoxDepthUptoSaid : Prop := fnExactBoxDepthUptoRow.holds Tryd.pinned (OpenSpec.upto fnExactBoxDepthSpec)

end Rows
end Go.Proofs.YtkfplnnncfkjfaaDoor
