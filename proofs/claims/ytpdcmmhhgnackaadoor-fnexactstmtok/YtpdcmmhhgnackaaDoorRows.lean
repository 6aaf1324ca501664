/-
  NARROWER THAN 'FOR EVERY INPUT', by the rows' own cells (each row's printed sentence says how): FnGives: laid · FnSort: laid · FnExactStmtOk: loops, laid.
  DERIVED. THE GIVEN ROWS OF THIS SEAT. 3 by the template 'for every input the law returns true; each argument reads behind the call as it read before'; 0 by the template 'total and deterministic' (their statements: YtpdcmmhhgnackaaDoorTotals.lean).
  GIVEN WITH THE SEED: the statements are not yours to turn. If you find one false, say at which input.
  Laid BY PROGRAM, IN A SANDBOX (cutbox-rows.mjs): the forced cells as the released guide's own fill.sh prints them over the translation 64415a2722a8f22c… (all of the seat's roots in one cut). By AI agents, Wed Nov 11 2026. No macro, syntax, notation, axiom, sorry.
-/
import Derived.Test.YtpdcmmhhgnackaaDoorChecked
import GoSem.Claim
import GoSem.ClaimJoined
import GoSem.ClaimMapViews
import Derived.JoinedTies
import Derived.KernelRfl
namespace Go.Proofs.YtpdcmmhhgnackaaDoor
/- THE CELL 'sum', in the pinned program and in every row, IS THE sha256 OF THE DUMP (.gsa) THAT YtpdcmmhhgnackaaDoorProg.lean LOADS. Nothing in Lean hashes anything: it is a label: what it is worth is what the hold of that sum in a sandbox is worth. -/
noncomputable def Tryd.pinned : Pinned := { name := "ytpdcmmhhgnackaadoor", sum := "64415a2722a8f22c298c74ff42900df36846c94b3f456b79d9350710bfd5557f", checked := Tryd.checked }
namespace Rows
def none {H : Type} : Left H := { results := [], args := [] }

/- WHAT THE LISTED PACKAGE-LEVEL VARIABLES READ AS WHEN THE CALL BEGINS. Each datum BY PROGRAM (the guide's laid-datum.mjs) off the statement by which the dump's own 'gosem.cut.vars' lays the variable. In a bare row this is a premise. The card (YtpdcmmhhgnackaaDoorCards.lean) ties it to the program's text. -/
def laid_loop_example_g00751_impl_exprForms {H : Type} : DataW H := .agg [.agg [.lit (.int .i64 0), .lit (.int .i64 7), .lit (.int .i64 0), .lit (.string [])], .agg [.lit (.int .i64 0), .lit (.int .i64 7), .lit (.int .i64 0), .lit (.string [])], .agg [.lit (.int .i64 0), .lit (.int .i64 7), .lit (.int .i64 0), .lit (.string [])], .agg [.lit (.int .i64 0), .lit (.int .i64 7), .lit (.int .i64 0), .lit (.string [116, 114, 117, 101])], .agg [.lit (.int .i64 0), .lit (.int .i64 7), .lit (.int .i64 0), .lit (.string [102, 97, 108, 115, 101])], .agg [.lit (.int .i64 0), .lit (.int .i64 7), .lit (.int .i64 0), .lit (.string [110, 117, 108, 108])], .agg [.lit (.int .i64 1), .lit (.int .i64 3), .lit (.int .i64 0), .lit (.string [110, 111, 116])], .agg [.lit (.int .i64 1), .lit (.int .i64 4), .lit (.int .i64 0), .lit (.string [105, 115])], .agg [.lit (.int .i64 2), .lit (.int .i64 2), .lit (.int .i64 0), .lit (.string [97, 110, 100])], .agg [.lit (.int .i64 2), .lit (.int .i64 1), .lit (.int .i64 0), .lit (.string [111, 114])], .agg [.lit (.int .i64 2), .lit (.int .i64 4), .lit (.int .i64 4), .lit (.string [61])], .agg [.lit (.int .i64 2), .lit (.int .i64 4), .lit (.int .i64 4), .lit (.string [60, 62])], .agg [.lit (.int .i64 2), .lit (.int .i64 4), .lit (.int .i64 4), .lit (.string [60])], .agg [.lit (.int .i64 2), .lit (.int .i64 4), .lit (.int .i64 4), .lit (.string [60, 61])], .agg [.lit (.int .i64 2), .lit (.int .i64 4), .lit (.int .i64 4), .lit (.string [62])], .agg [.lit (.int .i64 2), .lit (.int .i64 4), .lit (.int .i64 4), .lit (.string [62, 61])], .agg [.lit (.int .i64 2), .lit (.int .i64 5), .lit (.int .i64 4), .lit (.string [43])], .agg [.lit (.int .i64 2), .lit (.int .i64 5), .lit (.int .i64 4), .lit (.string [45])], .agg [.lit (.int .i64 2), .lit (.int .i64 6), .lit (.int .i64 4), .lit (.string [42])]]
def laid_loop_example_g00751_impl_ruleForms {H : Type} : DataW H := .agg [.agg [.lit (.string [112, 114, 105, 109, 97, 114, 121, 32, 107, 101, 121]), .agg [.lit (.int .i64 1), .lit (.int .i64 4)], .agg [.lit (.int .i64 0), .lit (.int .i64 0)], .lit (.bool false)], .agg [.lit (.string [117, 110, 105, 113, 117, 101]), .agg [.lit (.int .i64 1), .lit (.int .i64 4)], .agg [.lit (.int .i64 0), .lit (.int .i64 0)], .lit (.bool false)], .agg [.lit (.string [99, 104, 101, 99, 107]), .agg [.lit (.int .i64 0), .lit (.int .i64 0)], .agg [.lit (.int .i64 1), .lit (.int .i64 1)], .lit (.bool false)], .agg [.lit (.string [102, 111, 114, 101, 105, 103, 110, 32, 107, 101, 121]), .agg [.lit (.int .i64 1), .lit (.int .i64 4)], .agg [.lit (.int .i64 0), .lit (.int .i64 0)], .lit (.bool true)]]

/-- 'laws.FnGives': WHATEVER THE INPUT: true; the input reads as it did. -/
def fnGivesSpec : ChangeSpec := { name := "fnGives", vars := ["loop.example/g00751/impl.exprForms"], fn := fun _ => fun
  | [d, g1] => { results := [.lit (.bool true)], args := [d], vars := [g1] }
  | _ => none }
def fnGivesRow : OpenClaim := { program := "ytpdcmmhhgnackaadoor", sum := "64415a2722a8f22c298c74ff42900df36846c94b3f456b79d9350710bfd5557f", func := "loop.example/g00751/laws.FnGives", spec := "fnGives", inPlace := ["internal/bytealg.IndexByteString"], unfollowed := true, recurses := true, named := ["loop.example/g00751/impl.exprForms"], apart := false, laid := [("loop.example/g00751/impl.exprForms", laid_loop_example_g00751_impl_exprForms)] }
def FnGivesSaid : Prop := fnGivesRow.holds Tryd.pinned (OpenSpec.ofChange fnGivesSpec)

/-- ITS FALSE NEIGHBOUR: 'it returns false'. Refute it at one input. -/
def fnGivesWrong : ChangeSpec := { name := "fnGives", vars := ["loop.example/g00751/impl.exprForms"], fn := fun _ => fun
  | [d, g1] => { results := [.lit (.bool false)], args := [d], vars := [g1] }
  | _ => none }
def FnGivesWrongFalsely : Prop := fnGivesRow.holds Tryd.pinned (OpenSpec.ofChange fnGivesWrong)

/-- 'laws.FnSort': WHATEVER THE INPUT: true; the input reads as it did. -/
def fnSortSpec : ChangeSpec := { name := "fnSort", vars := ["loop.example/g00751/impl.exprForms"], fn := fun _ => fun
  | [d, g1] => { results := [.lit (.bool true)], args := [d], vars := [g1] }
  | _ => none }
def fnSortRow : OpenClaim := { program := "ytpdcmmhhgnackaadoor", sum := "64415a2722a8f22c298c74ff42900df36846c94b3f456b79d9350710bfd5557f", func := "loop.example/g00751/laws.FnSort", spec := "fnSort", inPlace := ["internal/bytealg.IndexByteString"], unfollowed := true, recurses := true, named := ["loop.example/g00751/impl.exprForms"], apart := false, laid := [("loop.example/g00751/impl.exprForms", laid_loop_example_g00751_impl_exprForms)] }
def FnSortSaid : Prop := fnSortRow.holds Tryd.pinned (OpenSpec.ofChange fnSortSpec)

/-- ITS FALSE NEIGHBOUR: 'it returns false'. Refute it at one input. -/
def fnSortWrong : ChangeSpec := { name := "fnSort", vars := ["loop.example/g00751/impl.exprForms"], fn := fun _ => fun
  | [d, g1] => { results := [.lit (.bool false)], args := [d], vars := [g1] }
  | _ => none }
def FnSortWrongFalsely : Prop := fnSortRow.holds Tryd.pinned (OpenSpec.ofChange fnSortWrong)

/-- 'laws.FnExactStmtOk': WHATEVER THE INPUT: true; the input reads as it did. -/
def fnExactStmtOkSpec : ChangeSpec := { name := "fnExactStmtOk", vars := ["loop.example/g00751/impl.exprForms", "loop.example/g00751/impl.ruleForms"], fn := fun _ => fun
  | [d, g1, g2] => { results := [.lit (.bool true)], args := [d], vars := [g1, g2] }
  | _ => none }
def fnExactStmtOkRow : OpenClaim := { program := "ytpdcmmhhgnackaadoor", sum := "64415a2722a8f22c298c74ff42900df36846c94b3f456b79d9350710bfd5557f", func := "loop.example/g00751/laws.FnExactStmtOk", spec := "fnExactStmtOk", inPlace := ["internal/bytealg.IndexByteString"], unfollowed := true, recurses := true, named := ["loop.example/g00751/impl.exprForms", "loop.example/g00751/impl.ruleForms"], loops := true, apart := false, laid := [("loop.example/g00751/impl.exprForms", laid_loop_example_g00751_impl_exprForms), ("loop.example/g00751/impl.ruleForms", laid_loop_example_g00751_impl_ruleForms)] }
def FnExactStmtOkSaid : Prop := fnExactStmtOkRow.holds Tryd.pinned (OpenSpec.ofChange fnExactStmtOkSpec)

/-- ITS FALSE NEIGHBOUR: 'it returns false'. Refute it at one input. -/
def fnExactStmtOkWrong : ChangeSpec := { name := "fnExactStmtOk", vars := ["loop.example/g00751/impl.exprForms", "loop.example/g00751/impl.ruleForms"], fn := fun _ => fun
  | [d, g1, g2] => { results := [.lit (.bool false)], args := [d], vars := [g1, g2] }
  | _ => none }
def FnExactStmtOkWrongFalsely : Prop := fnExactStmtOkRow.holds Tryd.pinned (OpenSpec.ofChange fnExactStmtOkWrong)

/- THE SECOND FORM. 'bulk': how many values and letters a reading holds, each counted each time it is reached (what is shared counts as often as it is met; a slice's spare places count too). A statement '..UptoSaid' is the law's where the arguments, and the package variables that the reading takes, are together of bulk at most 1048576: NARROWER than '..Said'. Prove '..Said' where nothing that the law and all that it calls make is longer than what came in: it says more and counts as full. Else prove '..UptoSaid'. A law counts once. -/
mutual
def uptoBulk {H : Type} : DataW H → Nat
  | .lit (.string bytes) => bytes.length + 1
  | .lit _ => 1
  | .nil => 1
  | .ptr d => uptoBulk d + 1
  | .slice elems spare => uptoBulkAll elems + uptoBulkAll spare + 1
  | .agg parts => uptoBulkAll parts + 1
  | .iface _ d => uptoBulk d + 1
  | .map entries => uptoBulkEntries entries + 1
  | .held _ => 1
def uptoBulkAll {H : Type} : List (DataW H) → Nat
  | [] => 0
  | d :: r => uptoBulk d + uptoBulkAll r
def uptoBulkEntries {H : Type} : List (Lit × DataW H) → Nat
  | [] => 0
  | x :: r => uptoBulkEntry x + uptoBulkEntries r
def uptoBulkEntry {H : Type} : Lit × DataW H → Nat
  | (.string bytes, d) => bytes.length + uptoBulk d + 1
  | (_, d) => uptoBulk d + 1
 end
def uptoSmall : (H : Type) → List (DataW H) → Bool := fun _ ds => decide (uptoBulkAll ds ≤ 1048576)
def OpenSpec.upto (s : _root_.Go.ChangeSpec) : _root_.Go.OpenSpec := { _root_.Go.OpenSpec.ofChange s with cond := some uptoSmall }

/-- 'laws.FnGives', WHERE WHAT IT READS IS OF BULK AT MOST 1048576: true; the input reads as it did. -/
def fnGivesUptoRow : OpenClaim := { program := "ytpdcmmhhgnackaadoor", sum := "64415a2722a8f22c298c74ff42900df36846c94b3f456b79d9350710bfd5557f", func := "loop.example/g00751/laws.FnGives", spec := "fnGives", inPlace := ["internal/bytealg.IndexByteString"], unfollowed := true, recurses := true, named := ["loop.example/g00751/impl.exprForms"], apart := false, laid := [("loop.example/g00751/impl.exprForms", laid_loop_example_g00751_impl_exprForms)], narrowed := true }
def FnGivesUptoSaid : Prop := fnGivesUptoRow.holds Tryd.pinned (OpenSpec.upto fnGivesSpec)

/-- 'laws.FnSort', WHERE WHAT IT READS IS OF BULK AT MOST 1048576: true; the input reads as it did. -/
def fnSortUptoRow : OpenClaim := { program := "ytpdcmmhhgnackaadoor", sum := "64415a2722a8f22c298c74ff42900df36846c94b3f456b79d9350710bfd5557f", func := "loop.example/g00751/laws.FnSort", spec := "fnSort", inPlace := ["internal/bytealg.IndexByteString"], unfollowed := true, recurses := true, named := ["loop.example/g00751/impl.exprForms"], apart := false, laid := [("loop.example/g00751/impl.exprForms", laid_loop_example_g00751_impl_exprForms)], narrowed := true }
def FnSortUptoSaid : Prop := fnSortUptoRow.holds Tryd.pinned (OpenSpec.upto fnSortSpec)

/-- 'laws.FnExactStmtOk', WHERE WHAT IT READS IS OF BULK AT MOST 1048576: true; the input reads as it did. -/
def fnExactStmtOkUptoRow : OpenClaim := { program := "ytpdcmmhhgnackaadoor", sum := "64415a2722a8f22c298c74ff42900df36846c94b3f456b79d9350710bfd5557f", func := "loop.example/g00751/laws.FnExactStmtOk", spec := "fnExactStmtOk", inPlace := ["internal/bytealg.IndexByteString"], unfollowed := true, recurses := true, named := ["loop.example/g00751/impl.exprForms", "loop.example/g00751/impl.ruleForms"], loops := true, apart := false, laid := [("loop.example/g00751/impl.exprForms", laid_loop_example_g00751_impl_exprForms), ("loop.example/g00751/impl.ruleForms", laid_loop_example_g00751_impl_ruleForms)], narrowed := true }
def FnExactStmtOkUptoSaid : Prop := fnExactStmtOkUptoRow.holds Tryd.pinned (OpenSpec.upto fnExactStmtOkSpec)

end Rows
end Go.Proofs.YtpdcmmhhgnackaaDoor
