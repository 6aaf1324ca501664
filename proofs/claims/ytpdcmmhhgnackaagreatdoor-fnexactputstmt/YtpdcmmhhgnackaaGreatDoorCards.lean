/-
  DERIVED. GIVEN WITH THE SEED: THE CARDS: each row of YtpdcmmhhgnackaaGreatDoorRows.lean that lists a variable, with what it lists TIED to the program's text (the seventh form; the later family's looks); each row that meets fmt, with fmt's text TOLD by the authors' own Lean function (tested against real Go, not proved from fmt's source: count such statements apart). THE CARD IS WHAT COUNTS. Prove the row's statement (the work); the ties are given (YtpdcmmhhgnackaaGreatDoorTie.lean); close each card by the builder's one call (the guide's Derived/Test/ToyasCard.lean, 'card_holds'). Laid BY PROGRAM, IN A SANDBOX (cutbox-door.mjs). By AI agents, Wed Nov 11 2026. No macro, syntax, notation, axiom, sorry.
-/
import Derived.Test.YtpdcmmhhgnackaaGreatDoorRows
import GoSem.ClaimSeven
namespace Go.Proofs.YtpdcmmhhgnackaaGreatDoor
namespace Rows

/-- THE TIED CARD OF 'laws.FnExactPutCol'. -/
def fnExactPutColCard : Claim7 := { stood := { row := fnExactPutColRow, standIns := [], harness := (true, "8074c2912079b3e034bb41979c603b095df8c4703a4805ba29fd8865821f898a"), looks := false }, kinds := [], alts := [], laidByText := true, laidKinds := [.data, .data, .data, .wider], laidTests := true, laidLooks := .later }
def FnExactPutColCardSaid : Prop := Claim7.holds Tryz.pinned (.plain (OpenSpec.ofChange fnExactPutColSpec)) fnExactPutColCard

/-- THE TIED CARD OF 'laws.FnExactPutRule'. -/
def fnExactPutRuleCard : Claim7 := { stood := { row := fnExactPutRuleRow, standIns := [], harness := (true, "8074c2912079b3e034bb41979c603b095df8c4703a4805ba29fd8865821f898a"), looks := false }, kinds := [], alts := [], laidByText := true, laidKinds := [.data, .data, .data, .wider, .wider], laidTests := true, laidLooks := .later }
def FnExactPutRuleCardSaid : Prop := Claim7.holds Tryz.pinned (.plain (OpenSpec.ofChange fnExactPutRuleSpec)) fnExactPutRuleCard

/-- THE TIED CARD OF 'laws.FnExactPutStmt'. -/
def fnExactPutStmtCard : Claim7 := { stood := { row := fnExactPutStmtRow, standIns := [], harness := (true, "8074c2912079b3e034bb41979c603b095df8c4703a4805ba29fd8865821f898a"), looks := false }, kinds := [], alts := [], laidByText := true, laidKinds := [.data, .data, .data, .wider, .wider], laidTests := true, laidLooks := .later }
def FnExactPutStmtCardSaid : Prop := Claim7.holds Tryz.pinned (.plain (OpenSpec.ofChange fnExactPutStmtSpec)) fnExactPutStmtCard

/-- THE SECOND FORM's CARD OF 'laws.FnExactPutCol'. -/
def fnExactPutColUptoCard : Claim7 := { stood := { row := fnExactPutColUptoRow, standIns := [], harness := (true, "8074c2912079b3e034bb41979c603b095df8c4703a4805ba29fd8865821f898a"), looks := false }, kinds := [], alts := [], laidByText := true, laidKinds := [.data, .data, .data, .wider], laidTests := true, laidLooks := .later }
def FnExactPutColUptoCardSaid : Prop := Claim7.holds Tryz.pinned (.plain (OpenSpec.upto fnExactPutColSpec)) fnExactPutColUptoCard

/-- THE SECOND FORM's CARD OF 'laws.FnExactPutRule'. -/
def fnExactPutRuleUptoCard : Claim7 := { stood := { row := fnExactPutRuleUptoRow, standIns := [], harness := (true, "8074c2912079b3e034bb41979c603b095df8c4703a4805ba29fd8865821f898a"), looks := false }, kinds := [], alts := [], laidByText := true, laidKinds := [.data, .data, .data, .wider, .wider], laidTests := true, laidLooks := .later }
def FnExactPutRuleUptoCardSaid : Prop := Claim7.holds Tryz.pinned (.plain (OpenSpec.upto fnExactPutRuleSpec)) fnExactPutRuleUptoCard

/-- THE SECOND FORM's CARD OF 'laws.FnExactPutStmt'. -/
def fnExactPutStmtUptoCard : Claim7 := { stood := { row := fnExactPutStmtUptoRow, standIns := [], harness := (true, "8074c2912079b3e034bb41979c603b095df8c4703a4805ba29fd8865821f898a"), looks := false }, kinds := [], alts := [], laidByText := true, laidKinds := [.data, .data, .data, .wider, .wider], laidTests := true, laidLooks := .later }
def FnExactPutStmtUptoCardSaid : Prop := Claim7.holds Tryz.pinned (.plain (OpenSpec.upto fnExactPutStmtSpec)) fnExactPutStmtUptoCard
end Rows
end Go.Proofs.YtpdcmmhhgnackaaGreatDoor
