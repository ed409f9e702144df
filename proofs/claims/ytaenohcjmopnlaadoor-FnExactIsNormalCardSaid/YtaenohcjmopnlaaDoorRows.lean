/-
  NARROWER THAN 'FOR EVERY INPUT', by the rows' own cells (each row's printed sentence says how): FnExactInstantiateCore: loops, laid · FnExactIsNormal: loops, laid · FnExactEraseCore: loops, laid · FnExactEraseBook: loops, laid.
  DERIVED. THE GIVEN ROWS OF THIS SEAT. 4 by the template 'for every input the law returns true; each argument reads behind the call as it read before'; 0 by the template 'total and deterministic' (their statements: YtaenohcjmopnlaaDoorTotals.lean).
  GIVEN WITH THE SEED: the statements are not yours to turn. If you find one false, say at which input.
  Laid BY PROGRAM, IN A SANDBOX (cutbox-rows.mjs): the forced cells as the released guide's own fill.sh prints them over the translation 90c909f7cc5f8c3d… (all of the seat's roots in one cut). By AI agents, Wed Nov 11 2026. No macro, syntax, notation, axiom, sorry.
-/
import Derived.Test.YtaenohcjmopnlaaDoorChecked
import GoSem.Claim
import GoSem.ClaimJoined
import GoSem.ClaimMapViews
import Derived.JoinedTies
import Derived.KernelRfl
namespace Go.Proofs.YtaenohcjmopnlaaDoor
/- THE CELL 'sum', in the pinned program and in every row, IS THE sha256 OF THE DUMP (.gsa) THAT YtaenohcjmopnlaaDoorProg.lean LOADS. Nothing in Lean hashes anything: it is a label: what it is worth is what the hold of that sum in a sandbox is worth. -/
noncomputable def Tryd.pinned : Pinned := { name := "ytaenohcjmopnlaadoor", sum := "90c909f7cc5f8c3da82eb48dc2588effa89a93853f0b0fb12a1750238739a523", checked := Tryd.checked }
namespace Rows
def none {H : Type} : Left H := { results := [], args := [] }

/- WHAT THE LISTED PACKAGE-LEVEL VARIABLES READ AS WHEN THE CALL BEGINS. Each datum BY PROGRAM (the guide's laid-datum.mjs) off the statement by which the dump's own 'gosem.cut.vars' lays the variable. In a bare row this is a premise. The card (YtaenohcjmopnlaaDoorCards.lean) ties it to the program's text. -/
def laid_loop_example_g01074_impl_coreForms {H : Type} : DataW H := .agg [.agg [.lit (.int .i64 0), .lit (.int .i64 0), .lit (.int .i64 0), .lit (.int .i64 0), .lit (.int .i64 0), .lit (.int .i64 0)], .agg [.lit (.int .i64 0), .lit (.int .i64 255), .lit (.int .i64 0), .lit (.int .i64 0), .lit (.int .i64 0), .lit (.int .i64 0)], .agg [.lit (.int .i64 (-2147483648)), .lit (.int .i64 2147483647), .lit (.int .i64 0), .lit (.int .i64 0), .lit (.int .i64 0), .lit (.int .i64 0)], .agg [.lit (.int .i64 1), .lit (.int .i64 6), .lit (.int .i64 0), .lit (.int .i64 0), .lit (.int .i64 2), .lit (.int .i64 2)], .agg [.lit (.int .i64 0), .lit (.int .i64 0), .lit (.int .i64 0), .lit (.int .i64 0), .lit (.int .i64 1), .lit (.int .i64 1)], .agg [.lit (.int .i64 0), .lit (.int .i64 0), .lit (.int .i64 0), .lit (.int .i64 0), .lit (.int .i64 2), .lit (.int .i64 2)], .agg [.lit (.int .i64 0), .lit (.int .i64 0), .lit (.int .i64 0), .lit (.int .i64 0), .lit (.int .i64 1), .lit (.int .i64 1)], .agg [.lit (.int .i64 0), .lit (.int .i64 0), .lit (.int .i64 0), .lit (.int .i64 0), .lit (.int .i64 2), .lit (.int .i64 2)], .agg [.lit (.int .i64 0), .lit (.int .i64 3), .lit (.int .i64 0), .lit (.int .i64 0), .lit (.int .i64 0), .lit (.int .i64 3)], .agg [.lit (.int .i64 0), .lit (.int .i64 0), .lit (.int .i64 1), .lit (.int .i64 4), .lit (.int .i64 1), .lit (.int .i64 1)], .agg [.lit (.int .i64 0), .lit (.int .i64 0), .lit (.int .i64 2), .lit (.int .i64 2), .lit (.int .i64 1), .lit (.int .i64 1)], .agg [.lit (.int .i64 0), .lit (.int .i64 23), .lit (.int .i64 0), .lit (.int .i64 0), .lit (.int .i64 0), .lit (.int .i64 0)]]

/-- 'laws.FnExactInstantiateCore': WHATEVER THE INPUT: true; the input reads as it did. -/
def fnExactInstantiateCoreSpec : ChangeSpec := { name := "fnExactInstantiateCore", vars := ["loop.example/g01074/impl.coreForms"], fn := fun _ => fun
  | [d1, d2, g1] => { results := [.lit (.bool true)], args := [d1, d2], vars := [g1] }
  | _ => none }
def fnExactInstantiateCoreRow : OpenClaim := { program := "ytaenohcjmopnlaadoor", sum := "90c909f7cc5f8c3da82eb48dc2588effa89a93853f0b0fb12a1750238739a523", func := "loop.example/g01074/laws.FnExactInstantiateCore", spec := "fnExactInstantiateCore", unfollowed := true, recurses := true, named := ["loop.example/g01074/impl.coreForms"], loops := true, apart := false, laid := [("loop.example/g01074/impl.coreForms", laid_loop_example_g01074_impl_coreForms)] }
def FnExactInstantiateCoreSaid : Prop := fnExactInstantiateCoreRow.holds Tryd.pinned (OpenSpec.ofChange fnExactInstantiateCoreSpec)

/-- ITS FALSE NEIGHBOUR: 'it returns false'. Refute it at one input. -/
def fnExactInstantiateCoreWrong : ChangeSpec := { name := "fnExactInstantiateCore", vars := ["loop.example/g01074/impl.coreForms"], fn := fun _ => fun
  | [d1, d2, g1] => { results := [.lit (.bool false)], args := [d1, d2], vars := [g1] }
  | _ => none }
def FnExactInstantiateCoreWrongFalsely : Prop := fnExactInstantiateCoreRow.holds Tryd.pinned (OpenSpec.ofChange fnExactInstantiateCoreWrong)

/-- 'laws.FnExactIsNormal': WHATEVER THE INPUT: true; the input reads as it did. -/
def fnExactIsNormalSpec : ChangeSpec := { name := "fnExactIsNormal", vars := ["loop.example/g01074/impl.coreForms"], fn := fun _ => fun
  | [d1, d2, g1] => { results := [.lit (.bool true)], args := [d1, d2], vars := [g1] }
  | _ => none }
def fnExactIsNormalRow : OpenClaim := { program := "ytaenohcjmopnlaadoor", sum := "90c909f7cc5f8c3da82eb48dc2588effa89a93853f0b0fb12a1750238739a523", func := "loop.example/g01074/laws.FnExactIsNormal", spec := "fnExactIsNormal", unfollowed := true, recurses := true, named := ["loop.example/g01074/impl.coreForms"], loops := true, apart := false, laid := [("loop.example/g01074/impl.coreForms", laid_loop_example_g01074_impl_coreForms)] }
def FnExactIsNormalSaid : Prop := fnExactIsNormalRow.holds Tryd.pinned (OpenSpec.ofChange fnExactIsNormalSpec)

/-- ITS FALSE NEIGHBOUR: 'it returns false'. Refute it at one input. -/
def fnExactIsNormalWrong : ChangeSpec := { name := "fnExactIsNormal", vars := ["loop.example/g01074/impl.coreForms"], fn := fun _ => fun
  | [d1, d2, g1] => { results := [.lit (.bool false)], args := [d1, d2], vars := [g1] }
  | _ => none }
def FnExactIsNormalWrongFalsely : Prop := fnExactIsNormalRow.holds Tryd.pinned (OpenSpec.ofChange fnExactIsNormalWrong)

/-- 'laws.FnExactEraseCore': WHATEVER THE INPUT: true; the input reads as it did. -/
def fnExactEraseCoreSpec : ChangeSpec := { name := "fnExactEraseCore", vars := ["loop.example/g01074/impl.coreForms"], fn := fun _ => fun
  | [d, g1] => { results := [.lit (.bool true)], args := [d], vars := [g1] }
  | _ => none }
def fnExactEraseCoreRow : OpenClaim := { program := "ytaenohcjmopnlaadoor", sum := "90c909f7cc5f8c3da82eb48dc2588effa89a93853f0b0fb12a1750238739a523", func := "loop.example/g01074/laws.FnExactEraseCore", spec := "fnExactEraseCore", unfollowed := true, recurses := true, named := ["loop.example/g01074/impl.coreForms"], loops := true, apart := false, laid := [("loop.example/g01074/impl.coreForms", laid_loop_example_g01074_impl_coreForms)] }
def FnExactEraseCoreSaid : Prop := fnExactEraseCoreRow.holds Tryd.pinned (OpenSpec.ofChange fnExactEraseCoreSpec)

/-- ITS FALSE NEIGHBOUR: 'it returns false'. Refute it at one input. -/
def fnExactEraseCoreWrong : ChangeSpec := { name := "fnExactEraseCore", vars := ["loop.example/g01074/impl.coreForms"], fn := fun _ => fun
  | [d, g1] => { results := [.lit (.bool false)], args := [d], vars := [g1] }
  | _ => none }
def FnExactEraseCoreWrongFalsely : Prop := fnExactEraseCoreRow.holds Tryd.pinned (OpenSpec.ofChange fnExactEraseCoreWrong)

/-- 'laws.FnExactEraseBook': WHATEVER THE INPUT: true; the input reads as it did. -/
def fnExactEraseBookSpec : ChangeSpec := { name := "fnExactEraseBook", vars := ["loop.example/g01074/impl.coreForms"], fn := fun _ => fun
  | [d, g1] => { results := [.lit (.bool true)], args := [d], vars := [g1] }
  | _ => none }
def fnExactEraseBookRow : OpenClaim := { program := "ytaenohcjmopnlaadoor", sum := "90c909f7cc5f8c3da82eb48dc2588effa89a93853f0b0fb12a1750238739a523", func := "loop.example/g01074/laws.FnExactEraseBook", spec := "fnExactEraseBook", unfollowed := true, recurses := true, named := ["loop.example/g01074/impl.coreForms"], loops := true, apart := false, laid := [("loop.example/g01074/impl.coreForms", laid_loop_example_g01074_impl_coreForms)] }
def FnExactEraseBookSaid : Prop := fnExactEraseBookRow.holds Tryd.pinned (OpenSpec.ofChange fnExactEraseBookSpec)

/-- ITS FALSE NEIGHBOUR: 'it returns false'. Refute it at one input. -/
def fnExactEraseBookWrong : ChangeSpec := { name := "fnExactEraseBook", vars := ["loop.example/g01074/impl.coreForms"], fn := fun _ => fun
  | [d, g1] => { results := [.lit (.bool false)], args := [d], vars := [g1] }
  | _ => none }
def FnExactEraseBookWrongFalsely : Prop := fnExactEraseBookRow.holds Tryd.pinned (OpenSpec.ofChange fnExactEraseBookWrong)

/- THE SECOND FORM. 'bulk': how many values and letters a reading holds, each counted each time it is reached (what is shared counts as often as it is met; a slice's spare places count too). A statement '..UptoSaid' is the law's where the arguments, and the package variables that the reading takes, are together of bulk at most 1048576: NARROWER than '..Said'. Prove '..Said' where nothing that the law and all that it calls make is longer than what came in: it says more and counts as full. Else prove '..UptoSaid'. A law counts once. -/
mutual
def uptoBulk {H : Type} : DataW H → Nat
  | .lit (.string bytes) => bytes.length + 1
  | .lit _ => 1
  | .nil => 1
  | .ptr d => uptoBulk d + 1
  | .slice elems spare => uptoBulkAll elems + uptoBulkAll spare + 1
  | .agg parts => uptoBulkAll parts + 1
  | .iface _ d => uptoBulk d + 1
  | .map entries => uptoBulkEntries entries + 1
  | .held _ => 1
def uptoBulkAll {H : Type} : List (DataW H) → Nat
  | [] => 0
  | d :: r => uptoBulk d + uptoBulkAll r
def uptoBulkEntries {H : Type} : List (Lit × DataW H) → Nat
  | [] => 0
  | x :: r => uptoBulkEntry x + uptoBulkEntries r
def uptoBulkEntry {H : Type} : Lit × DataW H → Nat
  | (.string bytes, d) => bytes.length + uptoBulk d + 1
  | (_, d) => uptoBulk d + 1
 end
def uptoSmall : (H : Type) → List (DataW H) → Bool := fun _ ds => decide (uptoBulkAll ds ≤ 1048576)
def OpenSpec.upto (s : _root_.Go.ChangeSpec) : _root_.Go.OpenSpec := { _root_.Go.OpenSpec.ofChange s with cond := some uptoSmall }

/-- 'laws.FnExactInstantiateCore', WHERE WHAT IT READS IS OF BULK AT MOST 1048576: true; the input reads as it did. -/
def fnExactInstantiateCoreUptoRow : OpenClaim := { program := "ytaenohcjmopnlaadoor", sum := "90c909f7cc5f8c3da82eb48dc2588effa89a93853f0b0fb12a1750238739a523", func := "loop.example/g01074/laws.FnExactInstantiateCore", spec := "fnExactInstantiateCore", unfollowed := true, recurses := true, named := ["loop.example/g01074/impl.coreForms"], loops := true, apart := false, laid := [("loop.example/g01074/impl.coreForms", laid_loop_example_g01074_impl_coreForms)], narrowed := true }
def FnExactInstantiateCoreUptoSaid : Prop := fnExactInstantiateCoreUptoRow.holds Tryd.pinned (OpenSpec.upto fnExactInstantiateCoreSpec)

/-- 'laws.FnExactIsNormal', WHERE WHAT IT READS IS OF BULK AT MOST 1048576: true; the input reads as it did. -/
def fnExactIsNormalUptoRow : OpenClaim := { program := "ytaenohcjmopnlaadoor", sum := "90c909f7cc5f8c3da82eb48dc2588effa89a93853f0b0fb12a1750238739a523", func := "loop.example/g01074/laws.FnExactIsNormal", spec := "fnExactIsNormal", unfollowed := true, recurses := true, named := ["loop.example/g01074/impl.coreForms"], loops := true, apart := false, laid := [("loop.example/g01074/impl.coreForms", laid_loop_example_g01074_impl_coreForms)], narrowed := true }
def FnExactIsNormalUptoSaid : Prop := fnExactIsNormalUptoRow.holds Tryd.pinned (OpenSpec.upto fnExactIsNormalSpec)

/-- 'laws.FnExactEraseCore', WHERE WHAT IT READS IS OF BULK AT MOST 1048576: true; the input reads as it did. -/
def fnExactEraseCoreUptoRow : OpenClaim := { program := "ytaenohcjmopnlaadoor", sum := "90c909f7cc5f8c3da82eb48dc2588effa89a93853f0b0fb12a1750238739a523", func := "loop.example/g01074/laws.FnExactEraseCore", spec := "fnExactEraseCore", unfollowed := true, recurses := true, named := ["loop.example/g01074/impl.coreForms"], loops := true, apart := false, laid := [("loop.example/g01074/impl.coreForms", laid_loop_example_g01074_impl_coreForms)], narrowed := true }
def FnExactEraseCoreUptoSaid : Prop := fnExactEraseCoreUptoRow.holds Tryd.pinned (OpenSpec.upto fnExactEraseCoreSpec)

/-- 'laws.FnExactEraseBook', WHERE WHAT IT READS IS OF BULK AT MOST 1048576: true; the input reads as it did. -/
def fnExactEraseBookUptoRow : OpenClaim := { program := "ytaenohcjmopnlaadoor", sum := "90c909f7cc5f8c3da82eb48dc2588effa89a93853f0b0fb12a1750238739a523", func := "loop.example/g01074/laws.FnExactEraseBook", spec := "fnExactEraseBook", unfollowed := true, recurses := true, named := ["loop.example/g01074/impl.coreForms"], loops := true, apart := false, laid := [("loop.example/g01074/impl.coreForms", laid_loop_example_g01074_impl_coreForms)], narrowed := true }
def FnExactEraseBookUptoSaid : Prop := fnExactEraseBookUptoRow.holds Tryd.pinned (OpenSpec.upto fnExactEraseBookSpec)

end Rows
end Go.Proofs.YtaenohcjmopnlaaDoor
