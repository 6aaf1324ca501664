/-
  DERIVED. GIVEN WITH THE SEED: THE PROGRAM's TIES (one call each: nine closed facts by the kernel) AND EACH ROW's TIE, after the 31st guide's Derived/Test/Toyas{Tie, Card}.lean. No idea stands in it: it is a product of the set-up. Laid BY PROGRAM, IN A SANDBOX (cutbox-door.mjs). By AI agents, Wed Nov 11 2026. No macro, syntax, notation, axiom, sorry.
-/
import Derived.Test.YtpdcmmhhgnackaaDoorRows
import Derived.LaidByTextLater
import Derived.SevenTiedAt
import Derived.LaidSub
import Derived.LaidOnce
namespace Go.Proofs.YtpdcmmhhgnackaaDoor
open Go
set_option maxRecDepth 100000
theorem seatTie1 : Tryd.prog.laidByTextLater [("loop.example/g00751/impl.exprForms", Rows.laid_loop_example_g00751_impl_exprForms), ("loop.example/g00751/impl.ruleForms", Rows.laid_loop_example_g00751_impl_ruleForms)] [.wider, .wider] true :=
  Program.laidByTextLater_by_one 46 8 77 (by kernel_rfl) (by kernel_rfl) (by kernel_rfl) (by kernel_rfl) (by kernel_rfl) (by kernel_rfl) (fun _ _ => by kernel_rfl)
theorem noOwnUnsafe : Tryd.pinned.checked.prog.headLifts.contains "ownunsafe" = false := by kernel_rfl
theorem tie : Tryd.prog.laidByTextLater [("loop.example/g00751/impl.exprForms", Rows.laid_loop_example_g00751_impl_exprForms)] [.wider] true :=
  Program.laidByTextLater.sub seatTie1 ["loop.example/g00751/impl.exprForms"] (by kernel_rfl) (by kernel_rfl)
theorem fnGives_row_tie : Rows.fnGivesRow.laidByTextAt .later Tryd.pinned [.wider] true :=
  OpenClaim.laidByTextAt_later rfl rfl tie noOwnUnsafe
theorem fnSort_row_tie : Rows.fnSortRow.laidByTextAt .later Tryd.pinned [.wider] true :=
  OpenClaim.laidByTextAt_later rfl rfl tie noOwnUnsafe
theorem tie2 : Tryd.prog.laidByTextLater [("loop.example/g00751/impl.exprForms", Rows.laid_loop_example_g00751_impl_exprForms), ("loop.example/g00751/impl.ruleForms", Rows.laid_loop_example_g00751_impl_ruleForms)] [.wider, .wider] true :=
  Program.laidByTextLater.sub seatTie1 ["loop.example/g00751/impl.exprForms", "loop.example/g00751/impl.ruleForms"] (by kernel_rfl) (by kernel_rfl)
theorem fnExactStmtOk_row_tie : Rows.fnExactStmtOkRow.laidByTextAt .later Tryd.pinned [.wider, .wider] true :=
  OpenClaim.laidByTextAt_later rfl rfl tie2 noOwnUnsafe
theorem fnGivesUpto_row_tie : Rows.fnGivesUptoRow.laidByTextAt .later Tryd.pinned [.wider] true :=
  OpenClaim.laidByTextAt_later rfl rfl tie noOwnUnsafe
theorem fnSortUpto_row_tie : Rows.fnSortUptoRow.laidByTextAt .later Tryd.pinned [.wider] true :=
  OpenClaim.laidByTextAt_later rfl rfl tie noOwnUnsafe
theorem fnExactStmtOkUpto_row_tie : Rows.fnExactStmtOkUptoRow.laidByTextAt .later Tryd.pinned [.wider, .wider] true :=
  OpenClaim.laidByTextAt_later rfl rfl tie2 noOwnUnsafe
end Go.Proofs.YtpdcmmhhgnackaaDoor
