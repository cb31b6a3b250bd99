/- The cells of an expression, each by its kind. -/
import Derived.Test.YtmlcpihedmmlfaaGreatDoorAExpr
set_option linter.unusedVariables false
set_option linter.unusedSimpArgs false
namespace Go.Proofs.YtmlcpihedmmlfaaGreatDoor
open Go.RowKit

/-- The eight cells, each by its kind. -/
theorem EAt.form {F : Nat → Prop} {w : World} {x : Ex} {q : List Value} (h : EAt F w x q) : ∃ (op ps : Int) (a b : ByteArray) (s y : Bool) (p p' : Option Addr) (n c n' c' : Nat), q = [.int .i64 op, .string a, .string b, .bool s, .slice p n c, .bool y, .slice p' n' c', .int .i64 ps] := by
  cases x with
  | mk op nm md nu ys ks ps =>
    simp only [EAt] at h
    obtain ⟨s, pw, nw, cw, pk, ck, rows, rfl, -⟩ := h
    exact ⟨_, _, _, _, _, _, _, _, _, _, _, _, rfl⟩

end Go.Proofs.YtmlcpihedmmlfaaGreatDoor
