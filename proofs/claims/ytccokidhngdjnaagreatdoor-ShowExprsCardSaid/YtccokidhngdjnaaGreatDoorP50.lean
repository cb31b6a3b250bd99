/- Lemmas. -/
import Derived.ProofKit
import Derived.SevenTiedAt
import Derived.Test.YtccokidhngdjnaaGreatDoorRows
set_option linter.unusedVariables false
set_option linter.unusedSimpArgs false
namespace Go.Proofs.YtccokidhngdjnaaGreatDoor.showExprs
open Go.ChangeShapes Go.WideShapes Go.ChangeAt Go.RowKit

theorem k1 : (Rows.showExprsRow.inPlace == Tryz.prog.inPlace 3) = true := by kernel_rfl
theorem k2 : (Rows.showExprsRow.unfollowed == Tryz.prog.unfollowed 3) = true := by kernel_rfl
theorem k3 : (Rows.showExprsRow.recurses == Tryz.prog.recurses 3) = true := by kernel_rfl
theorem k4 : (Rows.showExprsRow.named == Tryz.prog.varsNamed 3) = true := by kernel_rfl
theorem k5 : laidOutB Tryz.prog = true := by kernel_rfl
theorem k6 : mapsRowed Tryz.prog = true := by kernel_rfl
theorem k7 : Rows.showExprsRow.wf (OpenSpec.ofChange Rows.showExprsSpec) = true := by kernel_rfl
theorem closed : joinedFacts Tryz.prog 3 Tryz.f3 Rows.showExprsSpec Rows.showExprsRow = true := by
  unfold joinedFacts
  simp only [Bool.and_eq_true]
  repeat' apply And.intro
  all_goals first
    | with_reducible exact k1
    | with_reducible exact k2
    | with_reducible exact k3
    | with_reducible exact k4
    | with_reducible exact k5
    | with_reducible exact k6
    | with_reducible exact k7
    | kernel_rfl
end Go.Proofs.YtccokidhngdjnaaGreatDoor.showExprs
