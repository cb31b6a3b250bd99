/- The closed facts of the card on formulas, one by one. -/
import Derived.ProofKit
import Derived.SevenTiedAt
import Derived.Test.YtdilncefhfbgeaaGreatDoorRows
import Derived.Test.YtdilncefhfbgeaaGreatDoorCards
set_option linter.unusedVariables false
set_option linter.unusedSimpArgs false
namespace Go.Proofs.YtdilncefhfbgeaaGreatDoor.astFormulas
open Go.ChangeShapes Go.WideShapes Go.ChangeAt Go.RowKit

theorem p1 : Rows.astFormulasRow.wfByText (OpenSpec.ofChange Rows.astFormulasSpec) = true := by kernel_rfl
theorem p2 : Tryz.prog.mainIs = some (Rows.astFormulasCard.stood.harness.1, Rows.astFormulasCard.stood.harness.2.toList) := by kernel_rfl
theorem p3 : false = Tryz.prog.looks [] := by kernel_rfl
theorem p4 : false = Rows.astFormulasRow.goesBy Tryz.prog := by kernel_rfl
end Go.Proofs.YtdilncefhfbgeaaGreatDoor.astFormulas
