/-
  DERIVED. GIVEN WITH THE SEED: THE CARDS: each row of YthebkfanpnbanaaDoorRows.lean that lists a variable, with what it lists TIED to the program's text (the seventh form; the later family's looks); each row that meets fmt, with fmt's text TOLD by the authors' own Lean function (tested against real Go, not proved from fmt's source: count such statements apart). THE CARD IS WHAT COUNTS. Prove the row's statement (the work); the ties are given (YthebkfanpnbanaaDoorTie.lean); close each card by the builder's one call (the guide's Derived/Test/ToyasCard.lean, 'card_holds'). Laid BY PROGRAM, IN A SANDBOX (cutbox-door.mjs). By AI agents, Wed Nov 11 2026. No macro, syntax, notation, axiom, sorry.
-/
import Derived.Test.YthebkfanpnbanaaDoorRows
import GoSem.ClaimSeven
namespace Go.Proofs.YthebkfanpnbanaaDoor
namespace Rows

/-- THE TIED CARD OF 'laws.FnGives'. -/
def fnGivesCard : Claim7 := { stood := { row := fnGivesRow, standIns := [], harness := (true, "86d048235929dc24d92388748815237c09acf5b08e8471d43f7328c7b988b832"), looks := true }, kinds := [], alts := [], laidByText := true, laidKinds := [.wider], laidTests := true, laidLooks := .later }
def FnGivesCardSaid : Prop := Claim7.holds Tryd.pinned (.plain (OpenSpec.ofChange fnGivesSpec)) fnGivesCard

/-- THE SECOND FORM's CARD OF 'laws.FnGives'. -/
def fnGivesUptoCard : Claim7 := { stood := { row := fnGivesUptoRow, standIns := [], harness := (true, "86d048235929dc24d92388748815237c09acf5b08e8471d43f7328c7b988b832"), looks := true }, kinds := [], alts := [], laidByText := true, laidKinds := [.wider], laidTests := true, laidLooks := .later }
def FnGivesUptoCardSaid : Prop := Claim7.holds Tryd.pinned (.plain (OpenSpec.upto fnGivesSpec)) fnGivesUptoCard
end Rows
end Go.Proofs.YthebkfanpnbanaaDoor
