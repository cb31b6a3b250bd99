/- The closed facts of the row on free, one by one: each is asked of the kernel alone. -/
import Derived.ProofKit
import Derived.SevenTiedAt
import Derived.Test.YtmlcpihedmmlfaaGreatDoorRows
set_option linter.unusedVariables false
set_option linter.unusedSimpArgs false
namespace Go.Proofs.YtmlcpihedmmlfaaGreatDoor.astFree
open Go.ChangeShapes Go.WideShapes Go.ChangeAt Go.RowKit

theorem k1 : (Rows.astFreeRow.inPlace == Tryz.prog.inPlace 5) = true := by kernel_rfl
theorem k2 : (Rows.astFreeRow.unfollowed == Tryz.prog.unfollowed 5) = true := by kernel_rfl
theorem k3 : (Rows.astFreeRow.recurses == Tryz.prog.recurses 5) = true := by kernel_rfl
theorem k4 : (Rows.astFreeRow.named == Tryz.prog.varsNamed 5) = true := by kernel_rfl
theorem k5 : laidOutB Tryz.prog = true := by kernel_rfl
theorem k6 : mapsRowed Tryz.prog = true := by kernel_rfl
theorem k7 : Rows.astFreeRow.wf (OpenSpec.ofChange Rows.astFreeSpec) = true := by kernel_rfl
theorem closed : joinedFacts Tryz.prog 5 Tryz.f5 Rows.astFreeSpec Rows.astFreeRow = true := by
  unfold joinedFacts
  simp only [Bool.and_eq_true]
  repeat' apply And.intro
  all_goals first
    | with_reducible exact k1
    | with_reducible exact k2
    | with_reducible exact k3
    | with_reducible exact k4
    | with_reducible exact k5
    | with_reducible exact k6
    | with_reducible exact k7
    | kernel_rfl
end Go.Proofs.YtmlcpihedmmlfaaGreatDoor.astFree
