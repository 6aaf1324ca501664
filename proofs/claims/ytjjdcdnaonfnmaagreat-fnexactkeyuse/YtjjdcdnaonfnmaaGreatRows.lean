/-
  NARROWER THAN 'FOR EVERY INPUT', by the rows' own cells (each row's printed sentence says how): FnExactEnumUse: loops · FnExactTableUse: loops · FnExactKeyUse: loops.
  DERIVED. THE GIVEN ROWS OF THIS SEAT. 3 by the template 'for every input the law returns true; each argument reads behind the call as it read before'; 0 by the template 'total and deterministic' (their statements: YtjjdcdnaonfnmaaGreatTotals.lean).
  GIVEN WITH THE SEED: the statements are not yours to turn. If you find one false, say at which input.
  Laid BY PROGRAM, IN A SANDBOX (cutbox-rows.mjs): the forced cells as the released guide's own fill.sh prints them over the translation fa13634427079357… (all of the seat's roots in one cut). By AI agents, Wed Nov 11 2026. No macro, syntax, notation, axiom, sorry.
-/
import Derived.Test.YtjjdcdnaonfnmaaGreatChecked
import GoSem.Claim
import GoSem.ClaimJoined
import GoSem.ClaimMapViews
import Derived.JoinedTies
import Derived.KernelRfl
namespace Go.Proofs.YtjjdcdnaonfnmaaGreat
/- THE CELL 'sum', in the pinned program and in every row, IS THE sha256 OF THE DUMP (.gsa) THAT YtjjdcdnaonfnmaaGreatProg.lean LOADS. Nothing in Lean hashes anything: it is a label: what it is worth is what the hold of that sum in a sandbox is worth. -/
noncomputable def Tryz.pinned : Pinned := { name := "ytjjdcdnaonfnmaagreat", sum := "fa1363442707935783cf75db470a1c752d3a4083a6d018fce138deaa1f316c13", checked := Tryz.checked }
namespace Rows
def none {H : Type} : Left H := { results := [], args := [] }

/-- 'laws.FnExactEnumUse': WHATEVER THE INPUT: true; the input reads as it did. -/
def fnExactEnumUseSpec : ChangeSpec := { name := "fnExactEnumUse", fn := fun _ => fun
  | [d1, d2] => { results := [.lit (.bool true)], args := [d1, d2] }
  | _ => none }
def fnExactEnumUseRow : OpenClaim := { program := "ytjjdcdnaonfnmaagreat", sum := "fa1363442707935783cf75db470a1c752d3a4083a6d018fce138deaa1f316c13", func := "loop.example/g00751/laws.FnExactEnumUse", spec := "fnExactEnumUse", unfollowed := true, recurses := true, loops := true, apart := false }
def FnExactEnumUseSaid : Prop := fnExactEnumUseRow.holds Tryz.pinned (OpenSpec.ofChange fnExactEnumUseSpec)

/-- ITS FALSE NEIGHBOUR: 'it returns false'. Refute it at one input. -/
def fnExactEnumUseWrong : ChangeSpec := { name := "fnExactEnumUse", fn := fun _ => fun
  | [d1, d2] => { results := [.lit (.bool false)], args := [d1, d2] }
  | _ => none }
def FnExactEnumUseWrongFalsely : Prop := fnExactEnumUseRow.holds Tryz.pinned (OpenSpec.ofChange fnExactEnumUseWrong)

/-- 'laws.FnExactTableUse': WHATEVER THE INPUT: true; the input reads as it did. -/
def fnExactTableUseSpec : ChangeSpec := { name := "fnExactTableUse", fn := fun _ => fun
  | [d1, d2] => { results := [.lit (.bool true)], args := [d1, d2] }
  | _ => none }
def fnExactTableUseRow : OpenClaim := { program := "ytjjdcdnaonfnmaagreat", sum := "fa1363442707935783cf75db470a1c752d3a4083a6d018fce138deaa1f316c13", func := "loop.example/g00751/laws.FnExactTableUse", spec := "fnExactTableUse", unfollowed := true, recurses := true, loops := true, apart := false }
def FnExactTableUseSaid : Prop := fnExactTableUseRow.holds Tryz.pinned (OpenSpec.ofChange fnExactTableUseSpec)

/-- ITS FALSE NEIGHBOUR: 'it returns false'. Refute it at one input. -/
def fnExactTableUseWrong : ChangeSpec := { name := "fnExactTableUse", fn := fun _ => fun
  | [d1, d2] => { results := [.lit (.bool false)], args := [d1, d2] }
  | _ => none }
def FnExactTableUseWrongFalsely : Prop := fnExactTableUseRow.holds Tryz.pinned (OpenSpec.ofChange fnExactTableUseWrong)

/-- 'laws.FnExactKeyUse': WHATEVER THE INPUT: true; the input reads as it did. -/
def fnExactKeyUseSpec : ChangeSpec := { name := "fnExactKeyUse", fn := fun _ => fun
  | [d1, d2, d3] => { results := [.lit (.bool true)], args := [d1, d2, d3] }
  | _ => none }
def fnExactKeyUseRow : OpenClaim := { program := "ytjjdcdnaonfnmaagreat", sum := "fa1363442707935783cf75db470a1c752d3a4083a6d018fce138deaa1f316c13", func := "loop.example/g00751/laws.FnExactKeyUse", spec := "fnExactKeyUse", unfollowed := true, recurses := true, loops := true, apart := false }
def FnExactKeyUseSaid : Prop := fnExactKeyUseRow.holds Tryz.pinned (OpenSpec.ofChange fnExactKeyUseSpec)

/-- ITS FALSE NEIGHBOUR: 'it returns false'. Refute it at one input. -/
def fnExactKeyUseWrong : ChangeSpec := { name := "fnExactKeyUse", fn := fun _ => fun
  | [d1, d2, d3] => { results := [.lit (.bool false)], args := [d1, d2, d3] }
  | _ => none }
def FnExactKeyUseWrongFalsely : Prop := fnExactKeyUseRow.holds Tryz.pinned (OpenSpec.ofChange fnExactKeyUseWrong)

/- THE SECOND FORM. 'bulk': how many values and letters a reading holds, each counted each time it is reached (what is shared counts as often as it is met; a slice's spare places count too). A statement '..UptoSaid' is the law's where the arguments, and the package variables that the reading takes, are together of bulk at most 1048576: NARROWER than '..Said'. Prove '..Said' where nothing that the law and all that it calls make is longer than what came in: it says more and counts as full. Else prove '..UptoSaid'. A law counts once. -/
mutual
def uptoBulk {H : Type} : DataW H → Nat
  | .lit (.string bytes) => bytes.length + 1
  | .lit _ => 1
  | .nil => 1
  | .ptr d => uptoBulk d + 1
  | .slice elems spare => uptoBulkAll elems + uptoBulkAll spare + 1
  | .agg parts => uptoBulkAll parts + 1
  | .iface _ d => uptoBulk d + 1
  | .map entries => uptoBulkEntries entries + 1
  | .held _ => 1
def uptoBulkAll {H : Type} : List (DataW H) → Nat
  | [] => 0
  | d :: r => uptoBulk d + uptoBulkAll r
def uptoBulkEntries {H : Type} : List (Lit × DataW H) → Nat
  | [] => 0
  | x :: r => uptoBulkEntry x + uptoBulkEntries r
def uptoBulkEntry {H : Type} : Lit × DataW H → Nat
  | (.string bytes, d) => bytes.length + uptoBulk d + 1
  | (_, d) => uptoBulk d + 1
 end
def uptoSmall : (H : Type) → List (DataW H) → Bool := fun _ ds => decide (uptoBulkAll ds ≤ 1048576)
def OpenSpec.upto (s : _root_.Go.ChangeSpec) : _root_.Go.OpenSpec := { _root_.Go.OpenSpec.ofChange s with cond := some uptoSmall }

/-- 'laws.FnExactEnumUse', WHERE WHAT IT READS IS OF BULK AT MOST 1048576: true; the input reads as it did. -/
def fnExactEnumUseUptoRow : OpenClaim := { program := "ytjjdcdnaonfnmaagreat", sum := "fa1363442707935783cf75db470a1c752d3a4083a6d018fce138deaa1f316c13", func := "loop.example/g00751/laws.FnExactEnumUse", spec := "fnExactEnumUse", unfollowed := true, recurses := true, loops := true, apart := false, narrowed := true }
def FnExactEnumUseUptoSaid : Prop := fnExactEnumUseUptoRow.holds Tryz.pinned (OpenSpec.upto fnExactEnumUseSpec)

/-- 'laws.FnExactTableUse', WHERE WHAT IT READS IS OF BULK AT MOST 1048576: true; the input reads as it did. -/
def fnExactTableUseUptoRow : OpenClaim := { program := "ytjjdcdnaonfnmaagreat", sum := "fa1363442707935783cf75db470a1c752d3a4083a6d018fce138deaa1f316c13", func := "loop.example/g00751/laws.FnExactTableUse", spec := "fnExactTableUse", unfollowed := true, recurses := true, loops := true, apart := false, narrowed := true }
def FnExactTableUseUptoSaid : Prop := fnExactTableUseUptoRow.holds Tryz.pinned (OpenSpec.upto fnExactTableUseSpec)

/-- 'laws.FnExactKeyUse', WHERE WHAT IT READS IS OF BULK AT MOST 1048576: true; the input reads as it did. -/
def fnExactKeyUseUptoRow : OpenClaim := { program := "ytjjdcdnaonfnmaagreat", sum := "fa1363442707935783cf75db470a1c752d3a4083a6d018fce138deaa1f316c13", func := "loop.example/g00751/laws.FnExactKeyUse", spec := "fnExactKeyUse", unfollowed := true, recurses := true, loops := true, apart := false, narrowed := true }
def FnExactKeyUseUptoSaid : Prop := fnExactKeyUseUptoRow.holds Tryz.pinned (OpenSpec.upto fnExactKeyUseSpec)

end Rows
end Go.Proofs.YtjjdcdnaonfnmaaGreat
