/- The document's numbers that are known: sums, comparison, the other sign. -/
import Derived.Test.YtaheeccpihbcaaaKnownZ
import Derived.Test.YtaheeccpihbcaaaRAdd
namespace Go.Proofs.Ytaheeccpihbcaaa
open Go.RowKit Mx
section
variable {w : World} {L : List (Value × Int × Nat)} {x y : Value} {X Y : Int} {i j : Nat}

theorem ten_add {a b i j : Nat} (ha : a < 10 ^ i) (hb : b < 10 ^ j) : a + b < 10 ^ (i + j + 1) := by
  have h1 := ten_le (i := i) (j := i + j) (by omega)
  have h2 := ten_le (i := j) (j := i + j) (by omega)
  rw [Nat.pow_succ]
  omega

theorem RAdd_k (H : KnownZ w L) (hx : (x, X, i) ∈ L) (hy : (y, Y, j) ∈ L) (hi : i ≤ 250) (hj : j ≤ 250) : Calls Try.prog 22 #[x, y] w (KZPost L (X + Y) (i + j + 1) w) := by
  obtain ⟨a1, a2⟩ := H _ hx
  obtain ⟨b1, b2⟩ := H _ hy
  obtain ⟨sa, pa, n, ca, rfl, HX⟩ := z_parts a1
  obtain ⟨sb, pb, m, cb, rfl, HY⟩ := z_parts b1
  refine (RAdd_c sa sb pa pb n m ca cb X Y w a1 b1 (Nat.lt_of_lt_of_le a2 (ten_le hi)) (Nat.lt_of_lt_of_le b2 (ten_le hj))).mono ?_
  rintro e w' ⟨s, p, l, c, rfl, h1, h2, -⟩
  exact ⟨s, p, l, c, rfl, (H.kept h2).cons h1 (Nat.lt_of_le_of_lt (Int.natAbs_add_le X Y) (ten_add a2 b2)), h2⟩

theorem RNeg_k (H : KnownZ w L) (hx : (x, X, i) ∈ L) : Calls Try.prog 25 #[x] w (KZPost L (-X) i w) :=
  (RNeg_c x X w (H _ hx).1).mono fun e w' h => kzpost_of H (by rw [Int.natAbs_neg]; exact (H _ hx).2) h

theorem RCmp_k {m : Int} (H : KnownZ w L) (hx : (x, X, i) ∈ L) (hy : (y, Y, j) ∈ L) (hi : i ≤ 250) (hj : j ≤ 250) (hm : cmpZ X Y = m) : Calls Try.prog 26 #[x, y] w (ValPost (.int .i64 m) w) := by
  subst hm
  exact RCmp_c x y X Y w (H _ hx).1 (H _ hy).1 (Nat.lt_of_lt_of_le (H _ hx).2 (ten_le hi)) (Nat.lt_of_lt_of_le (H _ hy).2 (ten_le hj))
end
end Go.Proofs.Ytaheeccpihbcaaa
