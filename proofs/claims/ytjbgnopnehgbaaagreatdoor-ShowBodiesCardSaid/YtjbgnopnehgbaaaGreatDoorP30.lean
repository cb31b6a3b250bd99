/- Lemmas. -/
import Derived.Test.YtjbgnopnehgbaaaGreatDoorP28
set_option linter.unusedVariables false
set_option linter.unusedSimpArgs false
namespace Go.Proofs.YtjbgnopnehgbaaaGreatDoor
section
variable {T:List Tok} {D n:Nat} {nt:NxT} {s:St}
theorem V7 (h1:isQ T [108,101,116] s=true):fG T D n nt s=nT T nt s:=if_pos h1
theorem Vs (h1:isQ T [108,101,116] s=false) (h2:isQ T [105,102] s=true):fG T D n nt s=ifT T nt s:=by
 unfold fG;rw [if_neg (by rw [h1];decide),if_pos h2]
theorem VI (h1:isQ T [108,101,116] s=false) (h2:isQ T [105,102] s=false) (h3:isQ T [97,115,115,101,114,116] s=true):fG T D n nt s=ep T nt s:=by
 unfold fG;rw [if_neg (by rw [h1];decide),if_neg (by rw [h2];decide),if_pos h3]
theorem Yg (h1:isQ T [108,101,116] s=false) (h2:isQ T [105,102] s=false) (h3:isQ T [97,115,115,101,114,116] s=false):fG T D n nt s=ay T D n nt s:=by
 unfold fG;rw [if_neg (by rw [h1];decide),if_neg (by rw [h2];decide),if_neg (by rw [h3];decide)]
end
end Go.Proofs.YtjbgnopnehgbaaaGreatDoor
