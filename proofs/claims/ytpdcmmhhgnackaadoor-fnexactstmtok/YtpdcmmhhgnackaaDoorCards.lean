/-
  DERIVED. GIVEN WITH THE SEED: THE CARDS: each row of YtpdcmmhhgnackaaDoorRows.lean that lists a variable, with what it lists TIED to the program's text (the seventh form; the later family's looks); each row that meets fmt, with fmt's text TOLD by the authors' own Lean function (tested against real Go, not proved from fmt's source: count such statements apart). THE CARD IS WHAT COUNTS. Prove the row's statement (the work); the ties are given (YtpdcmmhhgnackaaDoorTie.lean); close each card by the builder's one call (the guide's Derived/Test/ToyasCard.lean, 'card_holds'). Laid BY PROGRAM, IN A SANDBOX (cutbox-door.mjs). By AI agents, Wed Nov 11 2026. No macro, syntax, notation, axiom, sorry.
-/
import Derived.Test.YtpdcmmhhgnackaaDoorRows
import GoSem.ClaimSeven
namespace Go.Proofs.YtpdcmmhhgnackaaDoor
namespace Rows

/-- THE TIED CARD OF 'laws.FnGives'. -/
def fnGivesCard : Claim7 := { stood := { row := fnGivesRow, standIns := [], harness := (true, "f815561273565b16275e16d0cba58c92489177c92a20568340a1164a24c37216"), looks := true }, kinds := [], alts := [], laidByText := true, laidKinds := [.wider], laidTests := true, laidLooks := .later }
def FnGivesCardSaid : Prop := Claim7.holds Tryd.pinned (.plain (OpenSpec.ofChange fnGivesSpec)) fnGivesCard

/-- THE TIED CARD OF 'laws.FnSort'. -/
def fnSortCard : Claim7 := { stood := { row := fnSortRow, standIns := [], harness := (true, "f815561273565b16275e16d0cba58c92489177c92a20568340a1164a24c37216"), looks := true }, kinds := [], alts := [], laidByText := true, laidKinds := [.wider], laidTests := true, laidLooks := .later }
def FnSortCardSaid : Prop := Claim7.holds Tryd.pinned (.plain (OpenSpec.ofChange fnSortSpec)) fnSortCard

/-- THE TIED CARD OF 'laws.FnExactStmtOk'. -/
def fnExactStmtOkCard : Claim7 := { stood := { row := fnExactStmtOkRow, standIns := [], harness := (true, "f815561273565b16275e16d0cba58c92489177c92a20568340a1164a24c37216"), looks := true }, kinds := [], alts := [], laidByText := true, laidKinds := [.wider, .wider], laidTests := true, laidLooks := .later }
def FnExactStmtOkCardSaid : Prop := Claim7.holds Tryd.pinned (.plain (OpenSpec.ofChange fnExactStmtOkSpec)) fnExactStmtOkCard

/-- THE SECOND FORM's CARD OF 'laws.FnGives'. -/
def fnGivesUptoCard : Claim7 := { stood := { row := fnGivesUptoRow, standIns := [], harness := (true, "f815561273565b16275e16d0cba58c92489177c92a20568340a1164a24c37216"), looks := true }, kinds := [], alts := [], laidByText := true, laidKinds := [.wider], laidTests := true, laidLooks := .later }
def FnGivesUptoCardSaid : Prop := Claim7.holds Tryd.pinned (.plain (OpenSpec.upto fnGivesSpec)) fnGivesUptoCard

/-- THE SECOND FORM's CARD OF 'laws.FnSort'. -/
def fnSortUptoCard : Claim7 := { stood := { row := fnSortUptoRow, standIns := [], harness := (true, "f815561273565b16275e16d0cba58c92489177c92a20568340a1164a24c37216"), looks := true }, kinds := [], alts := [], laidByText := true, laidKinds := [.wider], laidTests := true, laidLooks := .later }
def FnSortUptoCardSaid : Prop := Claim7.holds Tryd.pinned (.plain (OpenSpec.upto fnSortSpec)) fnSortUptoCard

/-- THE SECOND FORM's CARD OF 'laws.FnExactStmtOk'. -/
def fnExactStmtOkUptoCard : Claim7 := { stood := { row := fnExactStmtOkUptoRow, standIns := [], harness := (true, "f815561273565b16275e16d0cba58c92489177c92a20568340a1164a24c37216"), looks := true }, kinds := [], alts := [], laidByText := true, laidKinds := [.wider, .wider], laidTests := true, laidLooks := .later }
def FnExactStmtOkUptoCardSaid : Prop := Claim7.holds Tryd.pinned (.plain (OpenSpec.upto fnExactStmtOkSpec)) fnExactStmtOkUptoCard
end Rows
end Go.Proofs.YtpdcmmhhgnackaaDoor
