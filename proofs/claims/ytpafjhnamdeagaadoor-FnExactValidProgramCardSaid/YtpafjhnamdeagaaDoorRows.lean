/-
  NARROWER THAN 'FOR EVERY INPUT', by the rows' own cells (each row's printed sentence says how): FnExactValidTerm: loops, laid · FnExactAlphaSame: loops, laid · FnExactTermSize: loops, laid · FnExactFreeNames: loops, laid · FnExactValidProgram: loops, laid.
  DERIVED. THE GIVEN ROWS OF THIS SEAT. 5 by the template 'for every input the law returns true; each argument reads behind the call as it read before'; 0 by the template 'total and deterministic' (their statements: YtpafjhnamdeagaaDoorTotals.lean).
  GIVEN WITH THE SEED: the statements are not yours to turn. If you find one false, say at which input.
  Laid BY PROGRAM, IN A SANDBOX (cutbox-rows.mjs): the forced cells as the released guide's own fill.sh prints them over the translation 28b37b564104883e… (all of the seat's roots in one cut). By AI agents, Wed Nov 11 2026. No macro, syntax, notation, axiom, sorry.
-/
import Derived.Test.YtpafjhnamdeagaaDoorChecked
import GoSem.Claim
import GoSem.ClaimJoined
import GoSem.ClaimMapViews
import Derived.JoinedTies
import Derived.KernelRfl
namespace Go.Proofs.YtpafjhnamdeagaaDoor
/- THE CELL 'sum', in the pinned program and in every row, IS THE sha256 OF THE DUMP (.gsa) THAT YtpafjhnamdeagaaDoorProg.lean LOADS. Nothing in Lean hashes anything: it is a label: what it is worth is what the hold of that sum in a sandbox is worth. -/
noncomputable def Tryd.pinned : Pinned := { name := "ytpafjhnamdeagaadoor", sum := "28b37b564104883eed8d46e5440a8a4c3df8d10c02812af416daaab9ebefa917", checked := Tryd.checked }
namespace Rows
def none {H : Type} : Left H := { results := [], args := [] }

/- WHAT THE LISTED PACKAGE-LEVEL VARIABLES READ AS WHEN THE CALL BEGINS. Each datum BY PROGRAM (the guide's laid-datum.mjs) off the statement by which the dump's own 'gosem.cut.vars' lays the variable. In a bare row this is a premise. The card (YtpafjhnamdeagaaDoorCards.lean) ties it to the program's text. -/
def laid_loop_example_g01074_impl_nodeForms {H : Type} : DataW H := .agg [.agg [.lit (.int .i64 0), .lit (.int .i64 0), .lit (.int .i64 0), .lit (.bool false), .lit (.int .i64 0), .lit (.int .i64 0), .lit (.int .i64 0)], .agg [.lit (.int .i64 0), .lit (.int .i64 0), .lit (.int .i64 1), .lit (.bool false), .lit (.int .i64 0), .lit (.int .i64 0), .lit (.int .i64 0)], .agg [.lit (.int .i64 (-2147483648)), .lit (.int .i64 2147483647), .lit (.int .i64 0), .lit (.bool false), .lit (.int .i64 0), .lit (.int .i64 0), .lit (.int .i64 0)], .agg [.lit (.int .i64 1), .lit (.int .i64 6), .lit (.int .i64 0), .lit (.bool false), .lit (.int .i64 0), .lit (.int .i64 2), .lit (.int .i64 2)], .agg [.lit (.int .i64 0), .lit (.int .i64 0), .lit (.int .i64 1), .lit (.bool true), .lit (.int .i64 0), .lit (.int .i64 1), .lit (.int .i64 1)], .agg [.lit (.int .i64 0), .lit (.int .i64 0), .lit (.int .i64 0), .lit (.bool false), .lit (.int .i64 0), .lit (.int .i64 2), .lit (.int .i64 2)], .agg [.lit (.int .i64 0), .lit (.int .i64 0), .lit (.int .i64 0), .lit (.bool false), .lit (.int .i64 0), .lit (.int .i64 1), .lit (.int .i64 1)], .agg [.lit (.int .i64 0), .lit (.int .i64 0), .lit (.int .i64 1), .lit (.bool false), .lit (.int .i64 0), .lit (.int .i64 2), .lit (.int .i64 2)], .agg [.lit (.int .i64 0), .lit (.int .i64 0), .lit (.int .i64 2), .lit (.bool false), .lit (.int .i64 0), .lit (.int .i64 0), .lit (.int .i64 3)], .agg [.lit (.int .i64 0), .lit (.int .i64 0), .lit (.int .i64 0), .lit (.bool false), .lit (.int .i64 0), .lit (.int .i64 2), .lit (.int .i64 5)], .agg [.lit (.int .i64 0), .lit (.int .i64 0), .lit (.int .i64 2), .lit (.bool false), .lit (.int .i64 3), .lit (.int .i64 1), .lit (.int .i64 1)], .agg [.lit (.int .i64 0), .lit (.int .i64 0), .lit (.int .i64 0), .lit (.bool false), .lit (.int .i64 0), .lit (.int .i64 3), .lit (.int .i64 3)]]

/-- 'laws.FnExactValidTerm': WHATEVER THE INPUT: true; the input reads as it did. -/
def fnExactValidTermSpec : ChangeSpec := { name := "fnExactValidTerm", vars := ["loop.example/g01074/impl.nodeForms"], fn := fun _ => fun
  | [d, g1] => { results := [.lit (.bool true)], args := [d], vars := [g1] }
  | _ => none }
def fnExactValidTermRow : OpenClaim := { program := "ytpafjhnamdeagaadoor", sum := "28b37b564104883eed8d46e5440a8a4c3df8d10c02812af416daaab9ebefa917", func := "loop.example/g01074/laws.FnExactValidTerm", spec := "fnExactValidTerm", unfollowed := true, recurses := true, named := ["loop.example/g01074/impl.nodeForms"], loops := true, apart := false, laid := [("loop.example/g01074/impl.nodeForms", laid_loop_example_g01074_impl_nodeForms)] }
def FnExactValidTermSaid : Prop := fnExactValidTermRow.holds Tryd.pinned (OpenSpec.ofChange fnExactValidTermSpec)

/-- ITS FALSE NEIGHBOUR: 'it returns false'. Refute it at one input. -/
def fnExactValidTermWrong : ChangeSpec := { name := "fnExactValidTerm", vars := ["loop.example/g01074/impl.nodeForms"], fn := fun _ => fun
  | [d, g1] => { results := [.lit (.bool false)], args := [d], vars := [g1] }
  | _ => none }
def FnExactValidTermWrongFalsely : Prop := fnExactValidTermRow.holds Tryd.pinned (OpenSpec.ofChange fnExactValidTermWrong)

/-- 'laws.FnExactAlphaSame': WHATEVER THE INPUT: true; the input reads as it did. -/
def fnExactAlphaSameSpec : ChangeSpec := { name := "fnExactAlphaSame", vars := ["loop.example/g01074/impl.nodeForms"], fn := fun _ => fun
  | [d1, d2, g1] => { results := [.lit (.bool true)], args := [d1, d2], vars := [g1] }
  | _ => none }
def fnExactAlphaSameRow : OpenClaim := { program := "ytpafjhnamdeagaadoor", sum := "28b37b564104883eed8d46e5440a8a4c3df8d10c02812af416daaab9ebefa917", func := "loop.example/g01074/laws.FnExactAlphaSame", spec := "fnExactAlphaSame", inPlace := ["internal/abi.NoEscape"], unfollowed := true, recurses := true, named := ["loop.example/g01074/impl.nodeForms"], loops := true, apart := false, laid := [("loop.example/g01074/impl.nodeForms", laid_loop_example_g01074_impl_nodeForms)] }
def FnExactAlphaSameSaid : Prop := fnExactAlphaSameRow.holds Tryd.pinned (OpenSpec.ofChange fnExactAlphaSameSpec)

/-- ITS FALSE NEIGHBOUR: 'it returns false'. Refute it at one input. -/
def fnExactAlphaSameWrong : ChangeSpec := { name := "fnExactAlphaSame", vars := ["loop.example/g01074/impl.nodeForms"], fn := fun _ => fun
  | [d1, d2, g1] => { results := [.lit (.bool false)], args := [d1, d2], vars := [g1] }
  | _ => none }
def FnExactAlphaSameWrongFalsely : Prop := fnExactAlphaSameRow.holds Tryd.pinned (OpenSpec.ofChange fnExactAlphaSameWrong)

/-- 'laws.FnExactTermSize': WHATEVER THE INPUT: true; the input reads as it did. -/
def fnExactTermSizeSpec : ChangeSpec := { name := "fnExactTermSize", vars := ["loop.example/g01074/impl.nodeForms"], fn := fun _ => fun
  | [d, g1] => { results := [.lit (.bool true)], args := [d], vars := [g1] }
  | _ => none }
def fnExactTermSizeRow : OpenClaim := { program := "ytpafjhnamdeagaadoor", sum := "28b37b564104883eed8d46e5440a8a4c3df8d10c02812af416daaab9ebefa917", func := "loop.example/g01074/laws.FnExactTermSize", spec := "fnExactTermSize", unfollowed := true, recurses := true, named := ["loop.example/g01074/impl.nodeForms"], loops := true, apart := false, laid := [("loop.example/g01074/impl.nodeForms", laid_loop_example_g01074_impl_nodeForms)] }
def FnExactTermSizeSaid : Prop := fnExactTermSizeRow.holds Tryd.pinned (OpenSpec.ofChange fnExactTermSizeSpec)

/-- ITS FALSE NEIGHBOUR: 'it returns false'. Refute it at one input. -/
def fnExactTermSizeWrong : ChangeSpec := { name := "fnExactTermSize", vars := ["loop.example/g01074/impl.nodeForms"], fn := fun _ => fun
  | [d, g1] => { results := [.lit (.bool false)], args := [d], vars := [g1] }
  | _ => none }
def FnExactTermSizeWrongFalsely : Prop := fnExactTermSizeRow.holds Tryd.pinned (OpenSpec.ofChange fnExactTermSizeWrong)

/-- 'laws.FnExactFreeNames': WHATEVER THE INPUT: true; the input reads as it did. -/
def fnExactFreeNamesSpec : ChangeSpec := { name := "fnExactFreeNames", vars := ["loop.example/g01074/impl.nodeForms"], fn := fun _ => fun
  | [d, g1] => { results := [.lit (.bool true)], args := [d], vars := [g1] }
  | _ => none }
def fnExactFreeNamesRow : OpenClaim := { program := "ytpafjhnamdeagaadoor", sum := "28b37b564104883eed8d46e5440a8a4c3df8d10c02812af416daaab9ebefa917", func := "loop.example/g01074/laws.FnExactFreeNames", spec := "fnExactFreeNames", unfollowed := true, recurses := true, named := ["loop.example/g01074/impl.nodeForms"], loops := true, apart := false, laid := [("loop.example/g01074/impl.nodeForms", laid_loop_example_g01074_impl_nodeForms)] }
def FnExactFreeNamesSaid : Prop := fnExactFreeNamesRow.holds Tryd.pinned (OpenSpec.ofChange fnExactFreeNamesSpec)

/-- ITS FALSE NEIGHBOUR: 'it returns false'. Refute it at one input. -/
def fnExactFreeNamesWrong : ChangeSpec := { name := "fnExactFreeNames", vars := ["loop.example/g01074/impl.nodeForms"], fn := fun _ => fun
  | [d, g1] => { results := [.lit (.bool false)], args := [d], vars := [g1] }
  | _ => none }
def FnExactFreeNamesWrongFalsely : Prop := fnExactFreeNamesRow.holds Tryd.pinned (OpenSpec.ofChange fnExactFreeNamesWrong)

/-- 'laws.FnExactValidProgram': WHATEVER THE INPUT: true; the input reads as it did. -/
def fnExactValidProgramSpec : ChangeSpec := { name := "fnExactValidProgram", vars := ["loop.example/g01074/impl.nodeForms"], fn := fun _ => fun
  | [d, g1] => { results := [.lit (.bool true)], args := [d], vars := [g1] }
  | _ => none }
def fnExactValidProgramRow : OpenClaim := { program := "ytpafjhnamdeagaadoor", sum := "28b37b564104883eed8d46e5440a8a4c3df8d10c02812af416daaab9ebefa917", func := "loop.example/g01074/laws.FnExactValidProgram", spec := "fnExactValidProgram", unfollowed := true, recurses := true, named := ["loop.example/g01074/impl.nodeForms"], loops := true, apart := false, laid := [("loop.example/g01074/impl.nodeForms", laid_loop_example_g01074_impl_nodeForms)] }
def FnExactValidProgramSaid : Prop := fnExactValidProgramRow.holds Tryd.pinned (OpenSpec.ofChange fnExactValidProgramSpec)

/-- ITS FALSE NEIGHBOUR: 'it returns false'. Refute it at one input. -/
def fnExactValidProgramWrong : ChangeSpec := { name := "fnExactValidProgram", vars := ["loop.example/g01074/impl.nodeForms"], fn := fun _ => fun
  | [d, g1] => { results := [.lit (.bool false)], args := [d], vars := [g1] }
  | _ => none }
def FnExactValidProgramWrongFalsely : Prop := fnExactValidProgramRow.holds Tryd.pinned (OpenSpec.ofChange fnExactValidProgramWrong)

/- THE SECOND FORM. 'bulk': how many values and letters a reading holds, each counted each time it is reached (what is shared counts as often as it is met; a slice's spare places count too). A statement '..UptoSaid' is the law's where the arguments, and the package variables that the reading takes, are together of bulk at most 1048576: NARROWER than '..Said'. Prove '..Said' where nothing that the law and all that it calls make is longer than what came in: it says more and counts as full. Else prove '..UptoSaid'. A law counts once. -/
mutual
def uptoBulk {H : Type} : DataW H → Nat
  | .lit (.string bytes) => bytes.length + 1
  | .lit _ => 1
  | .nil => 1
  | .ptr d => uptoBulk d + 1
  | .slice elems spare => uptoBulkAll elems + uptoBulkAll spare + 1
  | .agg parts => uptoBulkAll parts + 1
  | .iface _ d => uptoBulk d + 1
  | .map entries => uptoBulkEntries entries + 1
  | .held _ => 1
def uptoBulkAll {H : Type} : List (DataW H) → Nat
  | [] => 0
  | d :: r => uptoBulk d + uptoBulkAll r
def uptoBulkEntries {H : Type} : List (Lit × DataW H) → Nat
  | [] => 0
  | x :: r => uptoBulkEntry x + uptoBulkEntries r
def uptoBulkEntry {H : Type} : Lit × DataW H → Nat
  | (.string bytes, d) => bytes.length + uptoBulk d + 1
  | (_, d) => uptoBulk d + 1
 end
def uptoSmall : (H : Type) → List (DataW H) → Bool := fun _ ds => decide (uptoBulkAll ds ≤ 1048576)
def OpenSpec.upto (s : _root_.Go.ChangeSpec) : _root_.Go.OpenSpec := { _root_.Go.OpenSpec.ofChange s with cond := some uptoSmall }

/-- 'laws.FnExactValidTerm', WHERE WHAT IT READS IS OF BULK AT MOST 1048576: true; the input reads as it did. -/
def fnExactValidTermUptoRow : OpenClaim := { program := "ytpafjhnamdeagaadoor", sum := "28b37b564104883eed8d46e5440a8a4c3df8d10c02812af416daaab9ebefa917", func := "loop.example/g01074/laws.FnExactValidTerm", spec := "fnExactValidTerm", unfollowed := true, recurses := true, named := ["loop.example/g01074/impl.nodeForms"], loops := true, apart := false, laid := [("loop.example/g01074/impl.nodeForms", laid_loop_example_g01074_impl_nodeForms)], narrowed := true }
def FnExactValidTermUptoSaid : Prop := fnExactValidTermUptoRow.holds Tryd.pinned (OpenSpec.upto fnExactValidTermSpec)

/-- 'laws.FnExactAlphaSame', WHERE WHAT IT READS IS OF BULK AT MOST 1048576: true; the input reads as it did. -/
def fnExactAlphaSameUptoRow : OpenClaim := { program := "ytpafjhnamdeagaadoor", sum := "28b37b564104883eed8d46e5440a8a4c3df8d10c02812af416daaab9ebefa917", func := "loop.example/g01074/laws.FnExactAlphaSame", spec := "fnExactAlphaSame", inPlace := ["internal/abi.NoEscape"], unfollowed := true, recurses := true, named := ["loop.example/g01074/impl.nodeForms"], loops := true, apart := false, laid := [("loop.example/g01074/impl.nodeForms", laid_loop_example_g01074_impl_nodeForms)], narrowed := true }
def FnExactAlphaSameUptoSaid : Prop := fnExactAlphaSameUptoRow.holds Tryd.pinned (OpenSpec.upto fnExactAlphaSameSpec)

/-- 'laws.FnExactTermSize', WHERE WHAT IT READS IS OF BULK AT MOST 1048576: true; the input reads as it did. -/
def fnExactTermSizeUptoRow : OpenClaim := { program := "ytpafjhnamdeagaadoor", sum := "28b37b564104883eed8d46e5440a8a4c3df8d10c02812af416daaab9ebefa917", func := "loop.example/g01074/laws.FnExactTermSize", spec := "fnExactTermSize", unfollowed := true, recurses := true, named := ["loop.example/g01074/impl.nodeForms"], loops := true, apart := false, laid := [("loop.example/g01074/impl.nodeForms", laid_loop_example_g01074_impl_nodeForms)], narrowed := true }
def FnExactTermSizeUptoSaid : Prop := fnExactTermSizeUptoRow.holds Tryd.pinned (OpenSpec.upto fnExactTermSizeSpec)

/-- 'laws.FnExactFreeNames', WHERE WHAT IT READS IS OF BULK AT MOST 1048576: true; the input reads as it did. -/
def fnExactFreeNamesUptoRow : OpenClaim := { program := "ytpafjhnamdeagaadoor", sum := "28b37b564104883eed8d46e5440a8a4c3df8d10c02812af416daaab9ebefa917", func := "loop.example/g01074/laws.FnExactFreeNames", spec := "fnExactFreeNames", unfollowed := true, recurses := true, named := ["loop.example/g01074/impl.nodeForms"], loops := true, apart := false, laid := [("loop.example/g01074/impl.nodeForms", laid_loop_example_g01074_impl_nodeForms)], narrowed := true }
def FnExactFreeNamesUptoSaid : Prop := fnExactFreeNamesUptoRow.holds Tryd.pinned (OpenSpec.upto fnExactFreeNamesSpec)

/-- 'laws.FnExactValidProgram', WHERE WHAT IT READS IS OF BULK AT MOST 1048576: true; the input reads as it did. -/
def fnExactValidProgramUptoRow : OpenClaim := { program := "ytpafjhnamdeagaadoor", sum := "28b37b564104883eed8d46e5440a8a4c3df8d10c02812af416daaab9ebefa917", func := "loop.example/g01074/laws.FnExactValidProgram", spec := "fnExactValidProgram", unfollowed := true, recurses := true, named := ["loop.example/g01074/impl.nodeForms"], loops := true, apart := false, laid := [("loop.example/g01074/impl.nodeForms", laid_loop_example_g01074_impl_nodeForms)], narrowed := true }
def FnExactValidProgramUptoSaid : Prop := fnExactValidProgramUptoRow.holds Tryd.pinned (OpenSpec.upto fnExactValidProgramSpec)

end Rows
end Go.Proofs.YtpafjhnamdeagaaDoor
