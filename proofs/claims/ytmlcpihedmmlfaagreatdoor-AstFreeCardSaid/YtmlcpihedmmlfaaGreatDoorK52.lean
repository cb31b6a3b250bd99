/- The closed facts of the card on free, one by one. -/
import Derived.ProofKit
import Derived.SevenTiedAt
import Derived.Test.YtmlcpihedmmlfaaGreatDoorRows
import Derived.Test.YtmlcpihedmmlfaaGreatDoorCards
set_option linter.unusedVariables false
set_option linter.unusedSimpArgs false
namespace Go.Proofs.YtmlcpihedmmlfaaGreatDoor.astFree
open Go.ChangeShapes Go.WideShapes Go.ChangeAt Go.RowKit

theorem p1 : Rows.astFreeRow.wfByText (OpenSpec.ofChange Rows.astFreeSpec) = true := by kernel_rfl
theorem p2 : Tryz.prog.mainIs = some (Rows.astFreeCard.stood.harness.1, Rows.astFreeCard.stood.harness.2.toList) := by kernel_rfl
theorem p3 : false = Tryz.prog.looks [] := by kernel_rfl
theorem p4 : false = Rows.astFreeRow.goesBy Tryz.prog := by kernel_rfl
end Go.Proofs.YtmlcpihedmmlfaaGreatDoor.astFree
