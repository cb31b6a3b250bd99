/- The closed facts of the card on trees, one by one. -/
import Derived.ProofKit
import Derived.SevenTiedAt
import Derived.Test.YtmlcpihedmmlfaaGreatDoorRows
import Derived.Test.YtmlcpihedmmlfaaGreatDoorCards
set_option linter.unusedVariables false
set_option linter.unusedSimpArgs false
namespace Go.Proofs.YtmlcpihedmmlfaaGreatDoor.astTrees
open Go.ChangeShapes Go.WideShapes Go.ChangeAt Go.RowKit

theorem p1 : Rows.astTreesRow.wfByText (OpenSpec.ofChange Rows.astTreesSpec) = true := by kernel_rfl
theorem p2 : Tryz.prog.mainIs = some (Rows.astTreesCard.stood.harness.1, Rows.astTreesCard.stood.harness.2.toList) := by kernel_rfl
theorem p3 : false = Tryz.prog.looks [] := by kernel_rfl
theorem p4 : false = Rows.astTreesRow.goesBy Tryz.prog := by kernel_rfl
end Go.Proofs.YtmlcpihedmmlfaaGreatDoor.astTrees
