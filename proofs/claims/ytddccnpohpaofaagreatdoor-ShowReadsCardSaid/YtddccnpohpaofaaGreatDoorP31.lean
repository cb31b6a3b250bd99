/- Lemmas. -/
import Derived.Test.YtddccnpohpaofaaGreatDoorP29
set_option linter.unusedVariables false
set_option linter.unusedSimpArgs false
namespace Go.Proofs.YtddccnpohpaofaaGreatDoor

section
variable {T : List Tok} {D n : Nat} {nt : NxT} {s : St}
theorem body_l (h1 : isQ T [108, 101, 116] s = true) : bodyE T D n nt s = letT T nt s := if_pos h1
theorem body_i (h1 : isQ T [108, 101, 116] s = false) (h2 : isQ T [105, 102] s = true) : bodyE T D n nt s = ifT T nt s := by
  unfold bodyE; rw [if_neg (by rw [h1]; decide), if_pos h2]
theorem body_a (h1 : isQ T [108, 101, 116] s = false) (h2 : isQ T [105, 102] s = false) (h3 : isQ T [97, 115, 115, 101, 114, 116] s = true) : bodyE T D n nt s = assertT T nt s := by
  unfold bodyE; rw [if_neg (by rw [h1]; decide), if_neg (by rw [h2]; decide), if_pos h3]
theorem body_f (h1 : isQ T [108, 101, 116] s = false) (h2 : isQ T [105, 102] s = false) (h3 : isQ T [97, 115, 115, 101, 114, 116] s = false) : bodyE T D n nt s = formulaT T D n nt s := by
  unfold bodyE; rw [if_neg (by rw [h1]; decide), if_neg (by rw [h2]; decide), if_neg (by rw [h3]; decide)]
end
end Go.Proofs.YtddccnpohpaofaaGreatDoor
