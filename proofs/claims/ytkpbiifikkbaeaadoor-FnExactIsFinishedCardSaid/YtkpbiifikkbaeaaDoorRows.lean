/-
  NARROWER THAN 'FOR EVERY INPUT', by the rows' own cells (each row's printed sentence says how): FnExactValidNeed: loops, laid · FnExactStartNeed: loops, laid · FnExactIsFinished: loops, laid.
  DERIVED. THE GIVEN ROWS OF THIS SEAT. 3 by the template 'for every input the law returns true; each argument reads behind the call as it read before'; 0 by the template 'total and deterministic' (their statements: YtkpbiifikkbaeaaDoorTotals.lean).
  GIVEN WITH THE SEED: the statements are not yours to turn. If you find one false, say at which input.
  Laid BY PROGRAM, IN A SANDBOX (cutbox-rows.mjs): the forced cells as the released guide's own fill.sh prints them over the translation d245f727d950b992… (all of the seat's roots in one cut). By AI agents, Wed Nov 11 2026. No macro, syntax, notation, axiom, sorry.
-/
import Derived.Test.YtkpbiifikkbaeaaDoorChecked
import GoSem.Claim
import GoSem.ClaimJoined
import GoSem.ClaimMapViews
import Derived.JoinedTies
import Derived.KernelRfl
namespace Go.Proofs.YtkpbiifikkbaeaaDoor
/- THE CELL 'sum', in the pinned program and in every row, IS THE sha256 OF THE DUMP (.gsa) THAT YtkpbiifikkbaeaaDoorProg.lean LOADS. Nothing in Lean hashes anything: it is a label: what it is worth is what the hold of that sum in a sandbox is worth. -/
noncomputable def Tryd.pinned : Pinned := { name := "ytkpbiifikkbaeaadoor", sum := "d245f727d950b99264a51447336191c19ccbaf97ab480e1ca63d55e7906e6c06", checked := Tryd.checked }
namespace Rows
def none {H : Type} : Left H := { results := [], args := [] }

/- WHAT THE LISTED PACKAGE-LEVEL VARIABLES READ AS WHEN THE CALL BEGINS. Each datum BY PROGRAM (the guide's laid-datum.mjs) off the statement by which the dump's own 'gosem.cut.vars' lays the variable. In a bare row this is a premise. The card (YtkpbiifikkbaeaaDoorCards.lean) ties it to the program's text. -/
def laid_loop_example_g01074_impl_coreForms {H : Type} : DataW H := .agg [.agg [.lit (.int .i64 0), .lit (.int .i64 0), .lit (.int .i64 0), .lit (.int .i64 0), .lit (.int .i64 0), .lit (.int .i64 0)], .agg [.lit (.int .i64 0), .lit (.int .i64 255), .lit (.int .i64 0), .lit (.int .i64 0), .lit (.int .i64 0), .lit (.int .i64 0)], .agg [.lit (.int .i64 (-2147483648)), .lit (.int .i64 2147483647), .lit (.int .i64 0), .lit (.int .i64 0), .lit (.int .i64 0), .lit (.int .i64 0)], .agg [.lit (.int .i64 1), .lit (.int .i64 6), .lit (.int .i64 0), .lit (.int .i64 0), .lit (.int .i64 2), .lit (.int .i64 2)], .agg [.lit (.int .i64 0), .lit (.int .i64 0), .lit (.int .i64 0), .lit (.int .i64 0), .lit (.int .i64 1), .lit (.int .i64 1)], .agg [.lit (.int .i64 0), .lit (.int .i64 0), .lit (.int .i64 0), .lit (.int .i64 0), .lit (.int .i64 2), .lit (.int .i64 2)], .agg [.lit (.int .i64 0), .lit (.int .i64 0), .lit (.int .i64 0), .lit (.int .i64 0), .lit (.int .i64 1), .lit (.int .i64 1)], .agg [.lit (.int .i64 0), .lit (.int .i64 0), .lit (.int .i64 0), .lit (.int .i64 0), .lit (.int .i64 2), .lit (.int .i64 2)], .agg [.lit (.int .i64 0), .lit (.int .i64 3), .lit (.int .i64 0), .lit (.int .i64 0), .lit (.int .i64 0), .lit (.int .i64 3)], .agg [.lit (.int .i64 0), .lit (.int .i64 0), .lit (.int .i64 1), .lit (.int .i64 4), .lit (.int .i64 1), .lit (.int .i64 1)], .agg [.lit (.int .i64 0), .lit (.int .i64 0), .lit (.int .i64 2), .lit (.int .i64 2), .lit (.int .i64 1), .lit (.int .i64 1)], .agg [.lit (.int .i64 0), .lit (.int .i64 23), .lit (.int .i64 0), .lit (.int .i64 0), .lit (.int .i64 0), .lit (.int .i64 0)]]

/-- 'laws.FnExactValidNeed': WHATEVER THE INPUT: true; the input reads as it did. -/
def fnExactValidNeedSpec : ChangeSpec := { name := "fnExactValidNeed", vars := ["loop.example/g01074/impl.coreForms"], fn := fun _ => fun
  | [d1, d2, g1] => { results := [.lit (.bool true)], args := [d1, d2], vars := [g1] }
  | _ => none }
def fnExactValidNeedRow : OpenClaim := { program := "ytkpbiifikkbaeaadoor", sum := "d245f727d950b99264a51447336191c19ccbaf97ab480e1ca63d55e7906e6c06", func := "loop.example/g01074/laws.FnExactValidNeed", spec := "fnExactValidNeed", unfollowed := true, recurses := true, named := ["loop.example/g01074/impl.coreForms"], loops := true, apart := false, laid := [("loop.example/g01074/impl.coreForms", laid_loop_example_g01074_impl_coreForms)] }
def FnExactValidNeedSaid : Prop := fnExactValidNeedRow.holds Tryd.pinned (OpenSpec.ofChange fnExactValidNeedSpec)

/-- ITS FALSE NEIGHBOUR: 'it returns false'. Refute it at one input. -/
def fnExactValidNeedWrong : ChangeSpec := { name := "fnExactValidNeed", vars := ["loop.example/g01074/impl.coreForms"], fn := fun _ => fun
  | [d1, d2, g1] => { results := [.lit (.bool false)], args := [d1, d2], vars := [g1] }
  | _ => none }
def FnExactValidNeedWrongFalsely : Prop := fnExactValidNeedRow.holds Tryd.pinned (OpenSpec.ofChange fnExactValidNeedWrong)

/-- 'laws.FnExactStartNeed': WHATEVER THE INPUT: true; the input reads as it did. -/
def fnExactStartNeedSpec : ChangeSpec := { name := "fnExactStartNeed", vars := ["loop.example/g01074/impl.coreForms"], fn := fun _ => fun
  | [d1, d2, g1] => { results := [.lit (.bool true)], args := [d1, d2], vars := [g1] }
  | _ => none }
def fnExactStartNeedRow : OpenClaim := { program := "ytkpbiifikkbaeaadoor", sum := "d245f727d950b99264a51447336191c19ccbaf97ab480e1ca63d55e7906e6c06", func := "loop.example/g01074/laws.FnExactStartNeed", spec := "fnExactStartNeed", unfollowed := true, recurses := true, named := ["loop.example/g01074/impl.coreForms"], loops := true, apart := false, laid := [("loop.example/g01074/impl.coreForms", laid_loop_example_g01074_impl_coreForms)] }
def FnExactStartNeedSaid : Prop := fnExactStartNeedRow.holds Tryd.pinned (OpenSpec.ofChange fnExactStartNeedSpec)

/-- ITS FALSE NEIGHBOUR: 'it returns false'. Refute it at one input. -/
def fnExactStartNeedWrong : ChangeSpec := { name := "fnExactStartNeed", vars := ["loop.example/g01074/impl.coreForms"], fn := fun _ => fun
  | [d1, d2, g1] => { results := [.lit (.bool false)], args := [d1, d2], vars := [g1] }
  | _ => none }
def FnExactStartNeedWrongFalsely : Prop := fnExactStartNeedRow.holds Tryd.pinned (OpenSpec.ofChange fnExactStartNeedWrong)

/-- 'laws.FnExactIsFinished': WHATEVER THE INPUT: true; the input reads as it did. -/
def fnExactIsFinishedSpec : ChangeSpec := { name := "fnExactIsFinished", vars := ["loop.example/g01074/impl.coreForms"], fn := fun _ => fun
  | [d1, d2, g1] => { results := [.lit (.bool true)], args := [d1, d2], vars := [g1] }
  | _ => none }
def fnExactIsFinishedRow : OpenClaim := { program := "ytkpbiifikkbaeaadoor", sum := "d245f727d950b99264a51447336191c19ccbaf97ab480e1ca63d55e7906e6c06", func := "loop.example/g01074/laws.FnExactIsFinished", spec := "fnExactIsFinished", unfollowed := true, recurses := true, named := ["loop.example/g01074/impl.coreForms"], loops := true, apart := false, laid := [("loop.example/g01074/impl.coreForms", laid_loop_example_g01074_impl_coreForms)] }
def FnExactIsFinishedSaid : Prop := fnExactIsFinishedRow.holds Tryd.pinned (OpenSpec.ofChange fnExactIsFinishedSpec)

/-- ITS FALSE NEIGHBOUR: 'it returns false'. Refute it at one input. -/
def fnExactIsFinishedWrong : ChangeSpec := { name := "fnExactIsFinished", vars := ["loop.example/g01074/impl.coreForms"], fn := fun _ => fun
  | [d1, d2, g1] => { results := [.lit (.bool false)], args := [d1, d2], vars := [g1] }
  | _ => none }
def FnExactIsFinishedWrongFalsely : Prop := fnExactIsFinishedRow.holds Tryd.pinned (OpenSpec.ofChange fnExactIsFinishedWrong)

/- THE SECOND FORM. 'bulk': how many values and letters a reading holds, each counted each time it is reached (what is shared counts as often as it is met; a slice's spare places count too). A statement '..UptoSaid' is the law's where the arguments, and the package variables that the reading takes, are together of bulk at most 1048576: NARROWER than '..Said'. Prove '..Said' where nothing that the law and all that it calls make is longer than what came in: it says more and counts as full. Else prove '..UptoSaid'. A law counts once. -/
mutual
def uptoBulk {H : Type} : DataW H → Nat
  | .lit (.string bytes) => bytes.length + 1
  | .lit _ => 1
  | .nil => 1
  | .ptr d => uptoBulk d + 1
  | .slice elems spare => uptoBulkAll elems + uptoBulkAll spare + 1
  | .agg parts => uptoBulkAll parts + 1
  | .iface _ d => uptoBulk d + 1
  | .map entries => uptoBulkEntries entries + 1
  | .held _ => 1
def uptoBulkAll {H : Type} : List (DataW H) → Nat
  | [] => 0
  | d :: r => uptoBulk d + uptoBulkAll r
def uptoBulkEntries {H : Type} : List (Lit × DataW H) → Nat
  | [] => 0
  | x :: r => uptoBulkEntry x + uptoBulkEntries r
def uptoBulkEntry {H : Type} : Lit × DataW H → Nat
  | (.string bytes, d) => bytes.length + uptoBulk d + 1
  | (_, d) => uptoBulk d + 1
 end
def uptoSmall : (H : Type) → List (DataW H) → Bool := fun _ ds => decide (uptoBulkAll ds ≤ 1048576)
def OpenSpec.upto (s : _root_.Go.ChangeSpec) : _root_.Go.OpenSpec := { _root_.Go.OpenSpec.ofChange s with cond := some uptoSmall }

/-- 'laws.FnExactValidNeed', WHERE WHAT IT READS IS OF BULK AT MOST 1048576: true; the input reads as it did. -/
def fnExactValidNeedUptoRow : OpenClaim := { program := "ytkpbiifikkbaeaadoor", sum := "d245f727d950b99264a51447336191c19ccbaf97ab480e1ca63d55e7906e6c06", func := "loop.example/g01074/laws.FnExactValidNeed", spec := "fnExactValidNeed", unfollowed := true, recurses := true, named := ["loop.example/g01074/impl.coreForms"], loops := true, apart := false, laid := [("loop.example/g01074/impl.coreForms", laid_loop_example_g01074_impl_coreForms)], narrowed := true }
def FnExactValidNeedUptoSaid : Prop := fnExactValidNeedUptoRow.holds Tryd.pinned (OpenSpec.upto fnExactValidNeedSpec)

/-- 'laws.FnExactStartNeed', WHERE WHAT IT READS IS OF BULK AT MOST 1048576: true; the input reads as it did. -/
def fnExactStartNeedUptoRow : OpenClaim := { program := "ytkpbiifikkbaeaadoor", sum := "d245f727d950b99264a51447336191c19ccbaf97ab480e1ca63d55e7906e6c06", func := "loop.example/g01074/laws.FnExactStartNeed", spec := "fnExactStartNeed", unfollowed := true, recurses := true, named := ["loop.example/g01074/impl.coreForms"], loops := true, apart := false, laid := [("loop.example/g01074/impl.coreForms", laid_loop_example_g01074_impl_coreForms)], narrowed := true }
def FnExactStartNeedUptoSaid : Prop := fnExactStartNeedUptoRow.holds Tryd.pinned (OpenSpec.upto fnExactStartNeedSpec)

/-- 'laws.FnExactIsFinished', WHERE WHAT IT READS IS OF BULK AT MOST 1048576: true; the input reads as it did. -/
def fnExactIsFinishedUptoRow : OpenClaim := { program := "ytkpbiifikkbaeaadoor", sum := "d245f727d950b99264a51447336191c19ccbaf97ab480e1ca63d55e7906e6c06", func := "loop.example/g01074/laws.FnExactIsFinished", spec := "fnExactIsFinished", unfollowed := true, recurses := true, named := ["loop.example/g01074/impl.coreForms"], loops := true, apart := false, laid := [("loop.example/g01074/impl.coreForms", laid_loop_example_g01074_impl_coreForms)], narrowed := true }
def FnExactIsFinishedUptoSaid : Prop := fnExactIsFinishedUptoRow.holds Tryd.pinned (OpenSpec.upto fnExactIsFinishedSpec)

end Rows
end Go.Proofs.YtkpbiifikkbaeaaDoor
