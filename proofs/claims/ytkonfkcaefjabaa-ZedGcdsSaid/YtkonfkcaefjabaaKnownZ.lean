/- The document's numbers that are known in a world, and what the calls make of them. -/
import Derived.Test.YtkonfkcaefjabaaKnown
import Derived.Test.YtkonfkcaefjabaaRMul
import Derived.Test.YtkonfkcaefjabaaRAdd
namespace Go.Proofs.Ytkonfkcaefjabaa
open Go.RowKit Mx

def KnownZ (w : World) (L : List (Value × Int × Nat)) : Prop := ∀ q ∈ L, IsZ w q.1 q.2.1 ∧ q.2.1.natAbs < 10 ^ q.2.2

theorem KnownZ.kept {w w' : World} {L : List (Value × Int × Nat)} (h : KnownZ w L) (hg : w.grownBy w' none) : KnownZ w' L :=
  fun q hq => ⟨(h q hq).1.kept hg, (h q hq).2⟩

theorem KnownZ.nil (w : World) : KnownZ w [] := fun q hq => by cases hq
theorem KnownZ.cons {w : World} {L : List (Value × Int × Nat)} {v : Value} {Z : Int} {k : Nat} (h : KnownZ w L) (hv : IsZ w v Z) (hz : Z.natAbs < 10 ^ k) : KnownZ w ((v, Z, k) :: L) := by
  intro q hq
  rcases List.mem_cons.1 hq with rfl | hq
  · exact ⟨hv, hz⟩
  · exact h q hq

def KZPost (L : List (Value × Int × Nat)) (Z : Int) (k : Nat) (w : World) (e : Ending) (w' : World) : Prop :=
  ∃ s p n c, e = .returned (.agg #[.int .i64 s, .slice p n c]) ∧ KnownZ w' ((.agg #[.int .i64 s, .slice p n c], Z, k) :: L) ∧ w.grownBy w' none

theorem kzpost_of {w : World} {L : List (Value × Int × Nat)} {Z : Int} {k : Nat} (h : KnownZ w L) (hz : Z.natAbs < 10 ^ k) {e : Ending} {w' : World} (hp : ZPost Z w e w') : KZPost L Z k w e w' := by
  obtain ⟨x, rfl, hx, hg⟩ := hp
  obtain ⟨s, p, n, c, rfl, HX⟩ := z_parts hx
  exact ⟨s, p, n, c, rfl, (h.kept hg).cons HX.out hz, hg⟩

theorem lim_z {Z : Int} {k : Nat} (hk : k ≤ 1000) (h : Z.natAbs < 10 ^ k) : Z.natAbs < Lim :=
  lim_le_pow (k := k) (Nat.le_trans (Nat.le_of_lt h) (Nat.pow_le_pow_left (by unfold Bw; omega) k)) (by unfold LimN; omega)

theorem ten_le {i j : Nat} (h : i ≤ j) : 10 ^ i ≤ 10 ^ j := Nat.pow_le_pow_right (by omega) h

section
variable {w : World} {L : List (Value × Int × Nat)} {x y : Value} {X Y : Int} {i j : Nat}

theorem RMul_k (H : KnownZ w L) (hx : (x, X, i) ∈ L) (hy : (y, Y, j) ∈ L) (hi : i ≤ 250) (hj : j ≤ 250) : Calls Try.prog 29 #[x, y] w (KZPost L (X * Y) (i + j) w) := by
  obtain ⟨a1, a2⟩ := H _ hx
  obtain ⟨b1, b2⟩ := H _ hy
  refine (RMul_c x y X Y w a1 b1 (Nat.lt_of_lt_of_le a2 (ten_le hi)) (Nat.lt_of_lt_of_le b2 (ten_le hj))).mono fun e w' h => kzpost_of H ?_ h
  rw [Int.natAbs_mul, Nat.pow_add]
  exact Nat.mul_lt_mul'' a2 b2

theorem Text_k (H : KnownZ w L) (hx : (x, X, i) ∈ L) (hi : i ≤ 1000) : Calls Try.prog 23 #[x] w (ValPost (txt X) w) :=
  Text_c x X w (H _ hx).1 (lim_z hi (H _ hx).2)
end

theorem parse_ten (l : List UInt8) : (parseV l).natAbs < 10 ^ 60 := (parseV_lt l).2
section
variable {w : World} {L : List (Value × Int × Nat)} {x y : Value} {X Y : Int} {i j : Nat}

theorem ten_add {a b i j : Nat} (ha : a < 10 ^ i) (hb : b < 10 ^ j) : a + b < 10 ^ (i + j + 1) := by
  have h1 := ten_le (i := i) (j := i + j) (by omega)
  have h2 := ten_le (i := j) (j := i + j) (by omega)
  rw [Nat.pow_succ]
  omega

theorem RAdd_k (H : KnownZ w L) (hx : (x, X, i) ∈ L) (hy : (y, Y, j) ∈ L) (hi : i ≤ 250) (hj : j ≤ 250) : Calls Try.prog 22 #[x, y] w (KZPost L (X + Y) (i + j + 1) w) := by
  obtain ⟨a1, a2⟩ := H _ hx
  obtain ⟨b1, b2⟩ := H _ hy
  obtain ⟨sa, pa, n, ca, rfl, HX⟩ := z_parts a1
  obtain ⟨sb, pb, m, cb, rfl, HY⟩ := z_parts b1
  refine (RAdd_c sa sb pa pb n m ca cb X Y w a1 b1 (Nat.lt_of_lt_of_le a2 (ten_le hi)) (Nat.lt_of_lt_of_le b2 (ten_le hj))).mono ?_
  rintro e w' ⟨s, p, l, c, rfl, h1, h2, -⟩
  exact ⟨s, p, l, c, rfl, (H.kept h2).cons h1 (Nat.lt_of_le_of_lt (Int.natAbs_add_le X Y) (ten_add a2 b2)), h2⟩

theorem RNeg_k (H : KnownZ w L) (hx : (x, X, i) ∈ L) : Calls Try.prog 25 #[x] w (KZPost L (-X) i w) :=
  (RNeg_c x X w (H _ hx).1).mono fun e w' h => kzpost_of H (by rw [Int.natAbs_neg]; exact (H _ hx).2) h

theorem RCmp_k {m : Int} (H : KnownZ w L) (hx : (x, X, i) ∈ L) (hy : (y, Y, j) ∈ L) (hi : i ≤ 250) (hj : j ≤ 250) (hm : cmpZ X Y = m) : Calls Try.prog 26 #[x, y] w (ValPost (.int .i64 m) w) := by
  subst hm
  exact RCmp_c x y X Y w (H _ hx).1 (H _ hy).1 (Nat.lt_of_lt_of_le (H _ hx).2 (ten_le hi)) (Nat.lt_of_lt_of_le (H _ hy).2 (ten_le hj))
end
end Go.Proofs.Ytkonfkcaefjabaa
