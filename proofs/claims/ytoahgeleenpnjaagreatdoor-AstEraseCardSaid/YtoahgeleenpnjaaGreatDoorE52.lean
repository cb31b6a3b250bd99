/- The closed facts of the row on erase, one by one: each is asked of the kernel alone. -/
import Derived.ProofKit
import Derived.SevenTiedAt
import Derived.Test.YtoahgeleenpnjaaGreatDoorRows
set_option linter.unusedVariables false
set_option linter.unusedSimpArgs false
namespace Go.Proofs.YtoahgeleenpnjaaGreatDoor.astErase
open Go.ChangeShapes Go.WideShapes Go.ChangeAt Go.RowKit

theorem k1 : (Rows.astEraseRow.inPlace == Tryz.prog.inPlace 4) = true := by kernel_rfl
theorem k2 : (Rows.astEraseRow.unfollowed == Tryz.prog.unfollowed 4) = true := by kernel_rfl
theorem k3 : (Rows.astEraseRow.recurses == Tryz.prog.recurses 4) = true := by kernel_rfl
theorem k4 : (Rows.astEraseRow.named == Tryz.prog.varsNamed 4) = true := by kernel_rfl
theorem k5 : laidOutB Tryz.prog = true := by kernel_rfl
theorem k6 : mapsRowed Tryz.prog = true := by kernel_rfl
theorem k7 : Rows.astEraseRow.wf (OpenSpec.ofChange Rows.astEraseSpec) = true := by kernel_rfl
theorem closed : joinedFacts Tryz.prog 4 Tryz.f4 Rows.astEraseSpec Rows.astEraseRow = true := by
  unfold joinedFacts
  simp only [Bool.and_eq_true]
  repeat' apply And.intro
  all_goals first
    | with_reducible exact k1
    | with_reducible exact k2
    | with_reducible exact k3
    | with_reducible exact k4
    | with_reducible exact k5
    | with_reducible exact k6
    | with_reducible exact k7
    | kernel_rfl
end Go.Proofs.YtoahgeleenpnjaaGreatDoor.astErase
