/- The closed facts of the card on erase, one by one. -/
import Derived.ProofKit
import Derived.SevenTiedAt
import Derived.Test.YtoahgeleenpnjaaGreatDoorRows
import Derived.Test.YtoahgeleenpnjaaGreatDoorCards
set_option linter.unusedVariables false
set_option linter.unusedSimpArgs false
namespace Go.Proofs.YtoahgeleenpnjaaGreatDoor.astErase
open Go.ChangeShapes Go.WideShapes Go.ChangeAt Go.RowKit

theorem p1 : Rows.astEraseRow.wfByText (OpenSpec.ofChange Rows.astEraseSpec) = true := by kernel_rfl
theorem p2 : Tryz.prog.mainIs = some (Rows.astEraseCard.stood.harness.1, Rows.astEraseCard.stood.harness.2.toList) := by kernel_rfl
theorem p3 : false = Tryz.prog.looks [] := by kernel_rfl
theorem p4 : false = Rows.astEraseRow.goesBy Tryz.prog := by kernel_rfl
end Go.Proofs.YtoahgeleenpnjaaGreatDoor.astErase
