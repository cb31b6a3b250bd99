/- Int: products of any two. -/
import Derived.Test.YtkonfkcaefjabaaInt8
namespace Go.Proofs.Ytkonfkcaefjabaa
open Go.RowKit Mx

theorem Mul_c (x y : Value) (X Y : Int) (w : World) (hx : IsInt w x X) (hy : IsInt w y Y) (hX : X.natAbs < Lim) (hY : Y.natAbs < Lim) : Calls Try.prog 28 #[x, y] w (IntPost (X * Y) w) := by
  obtain ⟨s1, v1, A, rfl, n1, z1, rfl⟩ := hx
  obtain ⟨s2, v2, B, rfl, n2, z2, rfl⟩ := hy
  have e1 : (if s1 = true then -(A : Int) else A).natAbs = A := by cases s1 <;> simp
  have e2 : (if s2 = true then -(B : Int) else B).natAbs = B := by cases s2 <;> simp
  rw [e1] at hX; rw [e2] at hY
  have e : (if s1 = true then -(A : Int) else A) * (if s2 = true then -(B : Int) else B) = sgn (s1 != s2) ((A * B : Nat)) := by cases s1 <;> cases s2 <;> simp [sgn, Int.neg_mul, Int.mul_neg, Int.neg_neg, Int.natCast_mul]
  rw [e]
  exact mul_w s1 s2 v1 v2 A B w n1 n2 hX hY
end Go.Proofs.Ytkonfkcaefjabaa
