/-
  NARROWER THAN 'FOR EVERY INPUT', by the rows' own cells (each row's printed sentence says how): FnExactPutCol: loops, laid · FnExactPutRule: loops, laid · FnExactPutStmt: loops, laid.
  DERIVED. THE GIVEN ROWS OF THIS SEAT. 3 by the template 'for every input the law returns true; each argument reads behind the call as it read before'; 0 by the template 'total and deterministic' (their statements: YtpdcmmhhgnackaaGreatDoorTotals.lean).
  GIVEN WITH THE SEED: the statements are not yours to turn. If you find one false, say at which input.
  Laid BY PROGRAM, IN A SANDBOX (cutbox-rows.mjs): the forced cells as the released guide's own fill.sh prints them over the translation 178100ae8e1d5538… (all of the seat's roots in one cut). By AI agents, Wed Nov 11 2026. No macro, syntax, notation, axiom, sorry.
-/
import Derived.Test.YtpdcmmhhgnackaaGreatDoorChecked
import GoSem.Claim
import GoSem.ClaimJoined
import GoSem.ClaimMapViews
import Derived.JoinedTies
import Derived.KernelRfl
namespace Go.Proofs.YtpdcmmhhgnackaaGreatDoor
/- THE CELL 'sum', in the pinned program and in every row, IS THE sha256 OF THE DUMP (.gsa) THAT YtpdcmmhhgnackaaGreatDoorProg.lean LOADS. Nothing in Lean hashes anything: it is a label: what it is worth is what the hold of that sum in a sandbox is worth. -/
noncomputable def Tryz.pinned : Pinned := { name := "ytpdcmmhhgnackaagreatdoor", sum := "178100ae8e1d553814bd6a53be8670f838517f3501aa28064a43b4495201a430", checked := Tryz.checked }
namespace Rows
def none {H : Type} : Left H := { results := [], args := [] }

/- WHAT THE LISTED PACKAGE-LEVEL VARIABLES READ AS WHEN THE CALL BEGINS. Each datum BY PROGRAM (the guide's laid-datum.mjs) off the statement by which the dump's own 'gosem.cut.vars' lays the variable. In a bare row this is a premise. The card (YtpdcmmhhgnackaaGreatDoorCards.lean) ties it to the program's text. -/
def laid_math_bits_deBruijn32tab {H : Type} : DataW H := .agg [.lit (.int .u8 0), .lit (.int .u8 1), .lit (.int .u8 28), .lit (.int .u8 2), .lit (.int .u8 29), .lit (.int .u8 14), .lit (.int .u8 24), .lit (.int .u8 3), .lit (.int .u8 30), .lit (.int .u8 22), .lit (.int .u8 20), .lit (.int .u8 15), .lit (.int .u8 25), .lit (.int .u8 17), .lit (.int .u8 4), .lit (.int .u8 8), .lit (.int .u8 31), .lit (.int .u8 27), .lit (.int .u8 13), .lit (.int .u8 23), .lit (.int .u8 21), .lit (.int .u8 19), .lit (.int .u8 16), .lit (.int .u8 7), .lit (.int .u8 26), .lit (.int .u8 12), .lit (.int .u8 18), .lit (.int .u8 6), .lit (.int .u8 11), .lit (.int .u8 5), .lit (.int .u8 10), .lit (.int .u8 9)]
def laid_math_bits_deBruijn64tab {H : Type} : DataW H := .agg [.lit (.int .u8 0), .lit (.int .u8 1), .lit (.int .u8 56), .lit (.int .u8 2), .lit (.int .u8 57), .lit (.int .u8 49), .lit (.int .u8 28), .lit (.int .u8 3), .lit (.int .u8 61), .lit (.int .u8 58), .lit (.int .u8 42), .lit (.int .u8 50), .lit (.int .u8 38), .lit (.int .u8 29), .lit (.int .u8 17), .lit (.int .u8 4), .lit (.int .u8 62), .lit (.int .u8 47), .lit (.int .u8 59), .lit (.int .u8 36), .lit (.int .u8 45), .lit (.int .u8 43), .lit (.int .u8 51), .lit (.int .u8 22), .lit (.int .u8 53), .lit (.int .u8 39), .lit (.int .u8 33), .lit (.int .u8 30), .lit (.int .u8 24), .lit (.int .u8 18), .lit (.int .u8 12), .lit (.int .u8 5), .lit (.int .u8 63), .lit (.int .u8 55), .lit (.int .u8 48), .lit (.int .u8 27), .lit (.int .u8 60), .lit (.int .u8 41), .lit (.int .u8 37), .lit (.int .u8 16), .lit (.int .u8 46), .lit (.int .u8 35), .lit (.int .u8 44), .lit (.int .u8 21), .lit (.int .u8 52), .lit (.int .u8 32), .lit (.int .u8 23), .lit (.int .u8 11), .lit (.int .u8 54), .lit (.int .u8 26), .lit (.int .u8 40), .lit (.int .u8 15), .lit (.int .u8 34), .lit (.int .u8 20), .lit (.int .u8 31), .lit (.int .u8 10), .lit (.int .u8 25), .lit (.int .u8 14), .lit (.int .u8 19), .lit (.int .u8 9), .lit (.int .u8 13), .lit (.int .u8 8), .lit (.int .u8 7), .lit (.int .u8 6)]
def laid_internal_strconv_uint64pow10 {H : Type} : DataW H := .agg [.lit (.int .u64 1), .lit (.int .u64 10), .lit (.int .u64 100), .lit (.int .u64 1000), .lit (.int .u64 10000), .lit (.int .u64 100000), .lit (.int .u64 1000000), .lit (.int .u64 10000000), .lit (.int .u64 100000000), .lit (.int .u64 1000000000), .lit (.int .u64 10000000000), .lit (.int .u64 100000000000), .lit (.int .u64 1000000000000), .lit (.int .u64 10000000000000), .lit (.int .u64 100000000000000), .lit (.int .u64 1000000000000000), .lit (.int .u64 10000000000000000), .lit (.int .u64 100000000000000000), .lit (.int .u64 1000000000000000000), .lit (.int .u64 10000000000000000000)]
def laid_loop_example_g00751_impl_exprForms {H : Type} : DataW H := .agg [.agg [.lit (.int .i64 0), .lit (.int .i64 7), .lit (.int .i64 0), .lit (.string [])], .agg [.lit (.int .i64 0), .lit (.int .i64 7), .lit (.int .i64 0), .lit (.string [])], .agg [.lit (.int .i64 0), .lit (.int .i64 7), .lit (.int .i64 0), .lit (.string [])], .agg [.lit (.int .i64 0), .lit (.int .i64 7), .lit (.int .i64 0), .lit (.string [116, 114, 117, 101])], .agg [.lit (.int .i64 0), .lit (.int .i64 7), .lit (.int .i64 0), .lit (.string [102, 97, 108, 115, 101])], .agg [.lit (.int .i64 0), .lit (.int .i64 7), .lit (.int .i64 0), .lit (.string [110, 117, 108, 108])], .agg [.lit (.int .i64 1), .lit (.int .i64 3), .lit (.int .i64 0), .lit (.string [110, 111, 116])], .agg [.lit (.int .i64 1), .lit (.int .i64 4), .lit (.int .i64 0), .lit (.string [105, 115])], .agg [.lit (.int .i64 2), .lit (.int .i64 2), .lit (.int .i64 0), .lit (.string [97, 110, 100])], .agg [.lit (.int .i64 2), .lit (.int .i64 1), .lit (.int .i64 0), .lit (.string [111, 114])], .agg [.lit (.int .i64 2), .lit (.int .i64 4), .lit (.int .i64 4), .lit (.string [61])], .agg [.lit (.int .i64 2), .lit (.int .i64 4), .lit (.int .i64 4), .lit (.string [60, 62])], .agg [.lit (.int .i64 2), .lit (.int .i64 4), .lit (.int .i64 4), .lit (.string [60])], .agg [.lit (.int .i64 2), .lit (.int .i64 4), .lit (.int .i64 4), .lit (.string [60, 61])], .agg [.lit (.int .i64 2), .lit (.int .i64 4), .lit (.int .i64 4), .lit (.string [62])], .agg [.lit (.int .i64 2), .lit (.int .i64 4), .lit (.int .i64 4), .lit (.string [62, 61])], .agg [.lit (.int .i64 2), .lit (.int .i64 5), .lit (.int .i64 4), .lit (.string [43])], .agg [.lit (.int .i64 2), .lit (.int .i64 5), .lit (.int .i64 4), .lit (.string [45])], .agg [.lit (.int .i64 2), .lit (.int .i64 6), .lit (.int .i64 4), .lit (.string [42])]]
def laid_loop_example_g00751_impl_ruleForms {H : Type} : DataW H := .agg [.agg [.lit (.string [112, 114, 105, 109, 97, 114, 121, 32, 107, 101, 121]), .agg [.lit (.int .i64 1), .lit (.int .i64 4)], .agg [.lit (.int .i64 0), .lit (.int .i64 0)], .lit (.bool false)], .agg [.lit (.string [117, 110, 105, 113, 117, 101]), .agg [.lit (.int .i64 1), .lit (.int .i64 4)], .agg [.lit (.int .i64 0), .lit (.int .i64 0)], .lit (.bool false)], .agg [.lit (.string [99, 104, 101, 99, 107]), .agg [.lit (.int .i64 0), .lit (.int .i64 0)], .agg [.lit (.int .i64 1), .lit (.int .i64 1)], .lit (.bool false)], .agg [.lit (.string [102, 111, 114, 101, 105, 103, 110, 32, 107, 101, 121]), .agg [.lit (.int .i64 1), .lit (.int .i64 4)], .agg [.lit (.int .i64 0), .lit (.int .i64 0)], .lit (.bool true)]]

/-- 'laws.FnExactPutCol': WHATEVER THE INPUT: true; the input reads as it did. -/
def fnExactPutColSpec : ChangeSpec := { name := "fnExactPutCol", vars := ["loop.example/g00751/impl.exprForms"], fn := fun _ => fun
  | [d, g1] => { results := [.lit (.bool true)], args := [d], vars := [g1] }
  | _ => none }
def fnExactPutColRow : OpenClaim := { program := "ytpdcmmhhgnackaagreatdoor", sum := "178100ae8e1d553814bd6a53be8670f838517f3501aa28064a43b4495201a430", func := "loop.example/g00751/laws.FnExactPutCol", spec := "fnExactPutCol", inPlace := ["internal/bytealg.IndexByteString", "internal/abi.NoEscape", "internal/bytealg.MakeNoZero"], unfollowed := true, recurses := true, named := ["loop.example/g00751/impl.exprForms", "internal/strconv.uint64pow10", "math/bits.deBruijn32tab", "math/bits.deBruijn64tab"], loops := true, apart := false, laid := [("math/bits.deBruijn32tab", laid_math_bits_deBruijn32tab), ("math/bits.deBruijn64tab", laid_math_bits_deBruijn64tab), ("internal/strconv.uint64pow10", laid_internal_strconv_uint64pow10), ("loop.example/g00751/impl.exprForms", laid_loop_example_g00751_impl_exprForms)] }
def FnExactPutColSaid : Prop := fnExactPutColRow.holds Tryz.pinned (OpenSpec.ofChange fnExactPutColSpec)

/-- ITS FALSE NEIGHBOUR: 'it returns false'. Refute it at one input. -/
def fnExactPutColWrong : ChangeSpec := { name := "fnExactPutCol", vars := ["loop.example/g00751/impl.exprForms"], fn := fun _ => fun
  | [d, g1] => { results := [.lit (.bool false)], args := [d], vars := [g1] }
  | _ => none }
def FnExactPutColWrongFalsely : Prop := fnExactPutColRow.holds Tryz.pinned (OpenSpec.ofChange fnExactPutColWrong)

/-- 'laws.FnExactPutRule': WHATEVER THE INPUT: true; the input reads as it did. -/
def fnExactPutRuleSpec : ChangeSpec := { name := "fnExactPutRule", vars := ["loop.example/g00751/impl.ruleForms", "loop.example/g00751/impl.exprForms"], fn := fun _ => fun
  | [d, g1, g2] => { results := [.lit (.bool true)], args := [d], vars := [g1, g2] }
  | _ => none }
def fnExactPutRuleRow : OpenClaim := { program := "ytpdcmmhhgnackaagreatdoor", sum := "178100ae8e1d553814bd6a53be8670f838517f3501aa28064a43b4495201a430", func := "loop.example/g00751/laws.FnExactPutRule", spec := "fnExactPutRule", inPlace := ["internal/bytealg.IndexByteString", "internal/abi.NoEscape", "internal/bytealg.MakeNoZero"], unfollowed := true, recurses := true, named := ["loop.example/g00751/impl.ruleForms", "loop.example/g00751/impl.exprForms", "internal/strconv.uint64pow10", "math/bits.deBruijn32tab", "math/bits.deBruijn64tab"], loops := true, apart := false, laid := [("math/bits.deBruijn32tab", laid_math_bits_deBruijn32tab), ("math/bits.deBruijn64tab", laid_math_bits_deBruijn64tab), ("internal/strconv.uint64pow10", laid_internal_strconv_uint64pow10), ("loop.example/g00751/impl.exprForms", laid_loop_example_g00751_impl_exprForms), ("loop.example/g00751/impl.ruleForms", laid_loop_example_g00751_impl_ruleForms)] }
def FnExactPutRuleSaid : Prop := fnExactPutRuleRow.holds Tryz.pinned (OpenSpec.ofChange fnExactPutRuleSpec)

/-- ITS FALSE NEIGHBOUR: 'it returns false'. Refute it at one input. -/
def fnExactPutRuleWrong : ChangeSpec := { name := "fnExactPutRule", vars := ["loop.example/g00751/impl.ruleForms", "loop.example/g00751/impl.exprForms"], fn := fun _ => fun
  | [d, g1, g2] => { results := [.lit (.bool false)], args := [d], vars := [g1, g2] }
  | _ => none }
def FnExactPutRuleWrongFalsely : Prop := fnExactPutRuleRow.holds Tryz.pinned (OpenSpec.ofChange fnExactPutRuleWrong)

/-- 'laws.FnExactPutStmt': WHATEVER THE INPUT: true; the input reads as it did. -/
def fnExactPutStmtSpec : ChangeSpec := { name := "fnExactPutStmt", vars := ["loop.example/g00751/impl.exprForms", "loop.example/g00751/impl.ruleForms"], fn := fun _ => fun
  | [d, g1, g2] => { results := [.lit (.bool true)], args := [d], vars := [g1, g2] }
  | _ => none }
def fnExactPutStmtRow : OpenClaim := { program := "ytpdcmmhhgnackaagreatdoor", sum := "178100ae8e1d553814bd6a53be8670f838517f3501aa28064a43b4495201a430", func := "loop.example/g00751/laws.FnExactPutStmt", spec := "fnExactPutStmt", inPlace := ["internal/bytealg.IndexByteString", "internal/abi.NoEscape", "internal/bytealg.MakeNoZero"], unfollowed := true, recurses := true, named := ["loop.example/g00751/impl.exprForms", "loop.example/g00751/impl.ruleForms", "internal/strconv.uint64pow10", "math/bits.deBruijn32tab", "math/bits.deBruijn64tab"], loops := true, apart := false, laid := [("math/bits.deBruijn32tab", laid_math_bits_deBruijn32tab), ("math/bits.deBruijn64tab", laid_math_bits_deBruijn64tab), ("internal/strconv.uint64pow10", laid_internal_strconv_uint64pow10), ("loop.example/g00751/impl.exprForms", laid_loop_example_g00751_impl_exprForms), ("loop.example/g00751/impl.ruleForms", laid_loop_example_g00751_impl_ruleForms)] }
def FnExactPutStmtSaid : Prop := fnExactPutStmtRow.holds Tryz.pinned (OpenSpec.ofChange fnExactPutStmtSpec)

/-- ITS FALSE NEIGHBOUR: 'it returns false'. Refute it at one input. -/
def fnExactPutStmtWrong : ChangeSpec := { name := "fnExactPutStmt", vars := ["loop.example/g00751/impl.exprForms", "loop.example/g00751/impl.ruleForms"], fn := fun _ => fun
  | [d, g1, g2] => { results := [.lit (.bool false)], args := [d], vars := [g1, g2] }
  | _ => none }
def FnExactPutStmtWrongFalsely : Prop := fnExactPutStmtRow.holds Tryz.pinned (OpenSpec.ofChange fnExactPutStmtWrong)

/- THE SECOND FORM. 'bulk': how many values and letters a reading holds, each counted each time it is reached (what is shared counts as often as it is met; a slice's spare places count too). A statement '..UptoSaid' is the law's where the arguments, and the package variables that the reading takes, are together of bulk at most 1048576: NARROWER than '..Said'. Prove '..Said' where nothing that the law and all that it calls make is longer than what came in: it says more and counts as full. Else prove '..UptoSaid'. A law counts once. -/
mutual
def uptoBulk {H : Type} : DataW H → Nat
  | .lit (.string bytes) => bytes.length + 1
  | .lit _ => 1
  | .nil => 1
  | .ptr d => uptoBulk d + 1
  | .slice elems spare => uptoBulkAll elems + uptoBulkAll spare + 1
  | .agg parts => uptoBulkAll parts + 1
  | .iface _ d => uptoBulk d + 1
  | .map entries => uptoBulkEntries entries + 1
  | .held _ => 1
def uptoBulkAll {H : Type} : List (DataW H) → Nat
  | [] => 0
  | d :: r => uptoBulk d + uptoBulkAll r
def uptoBulkEntries {H : Type} : List (Lit × DataW H) → Nat
  | [] => 0
  | x :: r => uptoBulkEntry x + uptoBulkEntries r
def uptoBulkEntry {H : Type} : Lit × DataW H → Nat
  | (.string bytes, d) => bytes.length + uptoBulk d + 1
  | (_, d) => uptoBulk d + 1
 end
def uptoSmall : (H : Type) → List (DataW H) → Bool := fun _ ds => decide (uptoBulkAll ds ≤ 1048576)
def OpenSpec.upto (s : _root_.Go.ChangeSpec) : _root_.Go.OpenSpec := { _root_.Go.OpenSpec.ofChange s with cond := some uptoSmall }

/-- 'laws.FnExactPutCol', WHERE WHAT IT READS IS OF BULK AT MOST 1048576: true; the input reads as it did. -/
def fnExactPutColUptoRow : OpenClaim := { program := "ytpdcmmhhgnackaagreatdoor", sum := "178100ae8e1d553814bd6a53be8670f838517f3501aa28064a43b4495201a430", func := "loop.example/g00751/laws.FnExactPutCol", spec := "fnExactPutCol", inPlace := ["internal/bytealg.IndexByteString", "internal/abi.NoEscape", "internal/bytealg.MakeNoZero"], unfollowed := true, recurses := true, named := ["loop.example/g00751/impl.exprForms", "internal/strconv.uint64pow10", "math/bits.deBruijn32tab", "math/bits.deBruijn64tab"], loops := true, apart := false, laid := [("math/bits.deBruijn32tab", laid_math_bits_deBruijn32tab), ("math/bits.deBruijn64tab", laid_math_bits_deBruijn64tab), ("internal/strconv.uint64pow10", laid_internal_strconv_uint64pow10), ("loop.example/g00751/impl.exprForms", laid_loop_example_g00751_impl_exprForms)], narrowed := true }
def FnExactPutColUptoSaid : Prop := fnExactPutColUptoRow.holds Tryz.pinned (OpenSpec.upto fnExactPutColSpec)

/-- 'laws.FnExactPutRule', WHERE WHAT IT READS IS OF BULK AT MOST 1048576: true; the input reads as it did. -/
def fnExactPutRuleUptoRow : OpenClaim := { program := "ytpdcmmhhgnackaagreatdoor", sum := "178100ae8e1d553814bd6a53be8670f838517f3501aa28064a43b4495201a430", func := "loop.example/g00751/laws.FnExactPutRule", spec := "fnExactPutRule", inPlace := ["internal/bytealg.IndexByteString", "internal/abi.NoEscape", "internal/bytealg.MakeNoZero"], unfollowed := true, recurses := true, named := ["loop.example/g00751/impl.ruleForms", "loop.example/g00751/impl.exprForms", "internal/strconv.uint64pow10", "math/bits.deBruijn32tab", "math/bits.deBruijn64tab"], loops := true, apart := false, laid := [("math/bits.deBruijn32tab", laid_math_bits_deBruijn32tab), ("math/bits.deBruijn64tab", laid_math_bits_deBruijn64tab), ("internal/strconv.uint64pow10", laid_internal_strconv_uint64pow10), ("loop.example/g00751/impl.exprForms", laid_loop_example_g00751_impl_exprForms), ("loop.example/g00751/impl.ruleForms", laid_loop_example_g00751_impl_ruleForms)], narrowed := true }
def FnExactPutRuleUptoSaid : Prop := fnExactPutRuleUptoRow.holds Tryz.pinned (OpenSpec.upto fnExactPutRuleSpec)

/-- 'laws.FnExactPutStmt', WHERE WHAT IT READS IS OF BULK AT MOST 1048576: true; the input reads as it did. -/
def fnExactPutStmtUptoRow : OpenClaim := { program := "ytpdcmmhhgnackaagreatdoor", sum := "178100ae8e1d553814bd6a53be8670f838517f3501aa28064a43b4495201a430", func := "loop.example/g00751/laws.FnExactPutStmt", spec := "fnExactPutStmt", inPlace := ["internal/bytealg.IndexByteString", "internal/abi.NoEscape", "internal/bytealg.MakeNoZero"], unfollowed := true, recurses := true, named := ["loop.example/g00751/impl.exprForms", "loop.example/g00751/impl.ruleForms", "internal/strconv.uint64pow10", "math/bits.deBruijn32tab", "math/bits.deBruijn64tab"], loops := true, apart := false, laid := [("math/bits.deBruijn32tab", laid_math_bits_deBruijn32tab), ("math/bits.deBruijn64tab", laid_math_bits_deBruijn64tab), ("internal/strconv.uint64pow10", laid_internal_strconv_uint64pow10), ("loop.example/g00751/impl.exprForms", laid_loop_example_g00751_impl_exprForms), ("loop.example/g00751/impl.ruleForms", laid_loop_example_g00751_impl_ruleForms)], narrowed := true }
def FnExactPutStmtUptoSaid : Prop := fnExactPutStmtUptoRow.holds Tryz.pinned (OpenSpec.upto fnExactPutStmtSpec)

end Rows
end Go.Proofs.YtpdcmmhhgnackaaGreatDoor
